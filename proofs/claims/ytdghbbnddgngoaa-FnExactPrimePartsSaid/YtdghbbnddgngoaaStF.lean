/- StateOf, the model's and the program's. No conditions. -/
import Derived.Test.YtdghbbnddgngoaaStJ
import Derived.Test.YtdghbbnddgngoaaStO
import Derived.Test.YtdghbbnddgngoaaOwnK
import Derived.Test.YtdghbbnddgngoaaHigh
import Derived.Test.YtdghbbnddgngoaaImpl02b
import Derived.Deep.RegionLaw
namespace Go.Proofs.Ytdghbbnddgngoaa
open Go.RowKit
set_option linter.unusedSimpArgs false
set_option linter.unusedVariables false

/-- whether a prop lands t beats from a beat, which has been thrown before -/
def comes (p : List Int) (beat : Int) (t : Nat) : Bool := decide (fromL p (beat + t) < beat)
/-- the mask of a pattern before a beat -/
def ofM (p : List Int) (beat : Int) (k : Nat) : Nat := maskU (comes p beat) k
theorem ofM_lt (p : List Int) (beat : Int) (k : Nat) : ofM p beat k < 2 ^ k := maskU_lt _ _
theorem ofM_one {p : List Int} {beat : Int} {k : Nat} (h : fromL p (beat + k) < beat) : ofM p beat (k + 1) = ofM p beat k ||| 2 ^ k := by
  show maskU _ k ||| (if decide (fromL p (beat + k) < beat) = true then 2 ^ k else 0) = _
  rw [decide_eq_true h, if_pos rfl]; rfl
theorem ofM_zero {p : List Int} {beat : Int} {k : Nat} (h : ¬ fromL p (beat + k) < beat) : ofM p beat (k + 1) = ofM p beat k := by
  show maskU _ k ||| (if decide (fromL p (beat + k) < beat) = true then 2 ^ k else 0) = _
  rw [decide_eq_false h, if_neg (by simp), Nat.or_zero]; rfl
/-- the code of a pattern, a beat and a height -/
def ofC (p : List Int) (beat height : Int) : Int :=
  if okPat p then (if inB beat (-1000) 1000 && inB height 1 10 then (if highA p ≤ height then 0 else 6) else 2) else 1
def ofA (p : List Int) (beat height : Int) : Int := if ofC p beat height = 0 then height else 0
def ofB (p : List Int) (beat height : Int) : Int := if ofC p beat height = 0 then (ofM p beat height.toNat : Nat) else 0
theorem ofC_bad {p : List Int} {beat height : Int} (h : okPat p = false) : ofC p beat height = 1 := by rw [ofC, if_neg (by simp [h])]
theorem ofC_far {p : List Int} {beat height : Int} (h : okPat p = true) (h2 : (inB beat (-1000) 1000 && inB height 1 10) = false) : ofC p beat height = 2 := by rw [ofC, if_pos h, if_neg (by simp [h2])]
theorem ofC_low {p : List Int} {beat height : Int} (h : okPat p = true) (h2 : (inB beat (-1000) 1000 && inB height 1 10) = true) (h3 : ¬ highA p ≤ height) : ofC p beat height = 6 := by rw [ofC, if_pos h, if_pos h2, if_neg h3]
theorem ofC_ok {p : List Int} {beat height : Int} (h : okPat p = true) (h2 : (inB beat (-1000) 1000 && inB height 1 10) = true) (h3 : highA p ≤ height) : ofC p beat height = 0 := by rw [ofC, if_pos h, if_pos h2, if_pos h3]
/-- a throw that was made before lands is no throw 0 -/
theorem from_pos {p : List Int} (h : okPat p = true) {beat : Int} {k : Nat} (hb : fromL p (beat + k) < beat) : 0 < atL p (fromL p (beat + k)) := by
  obtain ⟨t, ht, hf, hat, _⟩ := from_spec h (beat + k)
  rw [hf] at hb ⊢
  rw [hat]
  omega
theorem ints_slO {w : World} {B : Nat} {v : Value} {xs : List Int} (h : Ints w B v xs) : ∃ a cap, v = .slice a xs.length cap := by
  rcases h.shape with ⟨rfl, rfl⟩ | ⟨g, cap, rfl, _⟩
  · exact ⟨_, _, rfl⟩
  · exact ⟨_, _, rfl⟩
theorem from_near {p : List Int} (h : okPat p = true) (b : Int) : b - 15 ≤ fromL p b ∧ fromL p b ≤ b := by
  obtain ⟨t, ht, hf, _, _⟩ := from_spec h b
  omega

set_option maxRecDepth 10000 in
set_option maxHeartbeats 400000 in
theorem l08Of_any (v : Value) (B : Nat) (p : List Int) (beat : Int) (h : Nat) (w : World) (hI : Ints w B v p) (hok : okPat p = true) (hb1 : -1000 ≤ beat) (hb2 : beat ≤ 1000) (h1 : 1 ≤ h) (hh : h ≤ 10) :
    Calls Try.prog 94 #[v, .int .i64 beat, .int .i64 h] w fun e w' => e = .returned (.agg #[.int .i64 h, .int .i64 (ofM p beat h : Nat)]) ∧ Below w.heap.size w w' := by
  obtain ⟨l1, l2⟩ := okPat_len hok
  have HFrom := Lib.hid (fun (k : Nat) W (hW : Below w.heap.size w W) (hk : k < h) => l02From_any v B p (beat + k) W (hI.below hW) (okPat_list hok) (by omega) (by omega))
  have HAt := Lib.hid (fun x W (hW : Below w.heap.size w W) (hx1 : -10000 ≤ x) (hx2 : x ≤ 10000) => l02At_any v B p x W (hI.below hW) l1 (by omega) (by omega) (by omega))
  have HPos := Lib.hid (fun k hk => from_pos hok (beat := beat) (k := k) hk)
  have HNear := Lib.hid (fun (k : Nat) => from_near hok (beat + k))
  have HOne := Lib.hid (fun k hk => ofM_one (p := p) (beat := beat) (k := k) hk)
  have HZero := Lib.hid (fun k hk => ofM_zero (p := p) (beat := beat) (k := k) hk)
  have HLt := Lib.hid (fun k => ofM_lt p beat k)
  obtain ⟨xa, xc, rfl⟩ := ints_slO hI
  clear hI hok
  go_enter Try.func94, Try.ntmps94
  have Q0 := Blk.made w #[.int .i64 0, .int .i64 0] 60
  have B0 := alT w (.int .i64 0) (.int .i64 0) 60
  go_wp2
  go_loopw [7, 8] (fun m i wr => ∃ k : Nat, k ≤ h ∧ i = .int .i64 k ∧ m = .int .i64 (ofM p beat k : Nat) ∧ Blk wr w.heap.size [.int .i64 0, .int .i64 0] 60 ∧ Below w.heap.size w wr) (fun _ i _ => h - (intOf i).toNat)
  case atStart => exact ⟨0, Nat.zero_le _, rfl, rfl, Q0, B0⟩
  case round =>
    obtain ⟨k, hk, rfl, rfl, Q, hb⟩ := hrel
    clear Q0 B0
    have hmk := HLt.out k
    have hpk : (2 : Nat) ^ k ≤ 2 ^ 10 := Nat.pow_le_pow_right (by decide) (by omega)
    by_cases hlt : k < h
    · have HF := HFrom.out k wr hb hlt
      have hnr := HNear.out k
      have HQ := Lib.hid Q
      by_cases hlow : fromL p (beat + k) < beat
      · have hps := HPos.out k hlow
        obtain ⟨T, hT, hT2, p1, p2⟩ := nextPow k (by omega)
        have hor : bits .or .i64 ((ofM p beat k : Nat) : Int) T = (ofM p beat (k + 1) : Nat) := by
          rw [hT2, or_i64 _ _ (by omega) (by omega), HOne.out k hlow]
        have HOR := Lib.hid hor
        have HA := fun W hW => HAt.out (fromL p (beat + k)) W hW (by omega) (by omega)
        clear hor hT2 HFrom HAt HPos HNear HOne HZero HLt Q hpk
        generalize ofM p beat k = mk at *
        generalize fromL p (beat + k) = fr at *
        generalize atL p fr = at' at *
        go_wp2_with fail
        refine HF.mono ?_
        rintro e w1 ⟨rfl, b1⟩
        have hb1' := hb.trans (b1.mono hb.size)
        have HQ1 := Lib.hid (HQ.out.below b1 HQ.out.lt)
        clear HF HQ hb
        go_wp2_with fail
        refine (HA _ hb1').mono ?_
        rintro e w2 ⟨rfl, rfl⟩
        go_wp2
        go_roundw
        case rel => exact ⟨k + 1, by omega, by go_num, by rw [← HOR.out], HQ1.out, hb1'⟩
        case measure => simp [intOf]; omega
      · have HM := Lib.hid (HZero.out k (by omega))
        clear HFrom HAt HPos HNear HOne HZero HLt Q hpk
        generalize fromL p (beat + k) = fr at *
        go_wp2_with fail
        refine HF.mono ?_
        rintro e w1 ⟨rfl, b1⟩
        have hb1' := hb.trans (b1.mono hb.size)
        have HQ1 := Lib.hid (HQ.out.below b1 HQ.out.lt)
        clear HF HQ hb
        go_wp2
        go_roundw
        case rel => exact ⟨k + 1, by omega, by go_num, by rw [HM.out], HQ1.out, hb1'⟩
        case measure => simp [intOf]; omega
    · obtain rfl : k = h := by omega
      have d0 := Q.cell 0
      have d1 := Q.cell 1
      have f0 := Q.free 0
      have f1 := Q.free 1
      simp only [List.getElem?_cons_zero, List.getElem?_cons_succ] at d0 d1
      obtain ⟨r0, r1⟩ := stc_set (.int .i64 k) (.int .i64 (ofM p beat k : Nat)) d0 d1
      clear HFrom HAt HPos HNear HOne HZero HLt Q
      go_wp2
      refine bodyPost_ret (v := .agg #[.int .i64 k, .int .i64 (ofM p beat k : Nat)]) (by simp [results, Try.results94, go_sem, r0, r1]) rfl ?_
      exact ⟨rfl, two_below hb (Nat.le_refl _) _ _⟩

theorem l02High_ok (v : Value) (B : Nat) (p : List Int) (w : World) (h : Ints w B v p) (hok : okPat p = true) :
    Calls Try.prog 68 #[v] w fun e w' => e = .returned (.int .i64 (highA p)) ∧ w = w' := by
  obtain ⟨h1, h2⟩ := okPat_len hok
  rw [highA_true hok]
  rcases h.shape with ⟨rfl, rfl⟩ | ⟨g, cap, rfl, _, hg, _⟩
  · simp at h1
  · exact l02High_core g cap p.length (fun i => p.getD i 0) (hiF (fun i => p.getD i 0)) w h2 rfl (fun i hi => rfl) (fun i hi => h.cell i hi)
theorem highA_bound {p : List Int} (hok : okPat p = true) : 0 ≤ highA p ∧ highA p ≤ 15 := by
  rw [highA_true hok]
  exact hiF_bound _ _ (fun i hi => okPat_at hok i hi)

theorem ofC_zero {p : List Int} {beat height : Int} (h : ofC p beat height = 0) : okPat p = true ∧ (-1000 ≤ beat ∧ beat ≤ 1000) ∧ (1 ≤ height ∧ height ≤ 10) ∧ highA p ≤ height := by
  unfold ofC at h
  split at h
  · rename_i h1
    split at h
    · rename_i h2
      rw [Bool.and_eq_true] at h2
      split at h
      · rename_i h3
        exact ⟨h1, inB_iff.1 h2.1, inB_iff.1 h2.2, h3⟩
      · omega
    · omega
  · omega

end Go.Proofs.Ytdghbbnddgngoaa
