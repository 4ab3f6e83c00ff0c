/- The laws' own helpers on slices of slices of numbers that came in: szInt64SS counts, toInt64SS copies. Conditions: bounds on lengths. -/
import Derived.Test.YtgjmhihomklooaaGrids
namespace Go.Proofs.Ytgjmhihomklooaa
open Go.RowKit
set_option linter.unusedSimpArgs false
set_option linter.unusedVariables false

theorem IsRows.len {w : World} {a : Option Addr} {len cap : Nat} {A : Nat → Option Addr} {L C : Nat → Nat} {Z : Nat → List Int} (h : IsRows w a len cap A L C Z) : len ≤ cap ∧ cap ≤ maxLen := by
  rcases h with ⟨_, rfl, rfl⟩ | ⟨x, _, h1, h2, _⟩
  · exact ⟨Nat.le_refl _, Nat.zero_le _⟩
  · exact ⟨h1, h2⟩
theorem IsRow.len {w : World} {k : IntKind} {a : Option Addr} {len cap : Nat} {zs : List Int} (h : IsRow k w a len cap zs) : len ≤ zs.length ∧ len ≤ 9223372036854775807 := by
  rcases h with ⟨_, rfl, rfl, rfl⟩ | ⟨x, _, h1, h2, h3, _⟩
  · exact ⟨Nat.le_refl _, by omega⟩
  · unfold maxLen at h2
    exact ⟨by omega, by omega⟩
theorem IsRows.below {w w' : World} {a : Option Addr} {len cap : Nat} {A : Nat → Option Addr} {L C : Nat → Nat} {Z : Nat → List Int} (h : IsRows w a len cap A L C Z) (hb : Below w.heap.size w w') : IsRows w' a len cap A L C Z := by
  rcases h with h | ⟨x, h1, h2, h3, h4⟩
  · exact .inl h
  · refine .inr ⟨x, h1, h2, h3, fun r hr => ?_⟩
    obtain ⟨g1, g2⟩ := h4 r hr
    exact ⟨by rw [hb.cell (cell_block g1)]; exact g1, g2.below hb⟩

/-- what a walk wants of rows that came in -/
theorem IsRows.parts {w : World} {a : Option Addr} {len cap : Nat} {A : Nat → Option Addr} {L C : Nat → Nat} {Z : Nat → List Int} (h : IsRows w a len cap A L C Z) (hz : len ≠ 0) :
    ∃ b off, a = some ⟨b, off, none⟩ ∧ b < w.heap.size ∧ ∀ r, r < len → w.cell? ⟨b, off + r, none⟩ = some (.slice (A r) (L r) (C r)) ∧ IsRow .i64 w (A r) (L r) (C r) (Z r) := by
  rcases h with ⟨_, h0, _⟩ | ⟨x, rfl, h1, h2, hc⟩
  · exact absurd h0 hz
  · obtain ⟨b, off, spot⟩ := x
    have hc0 := (hc 0 (by omega)).1
    have hspot : spot = none := by simpa [Addr.add] using World.cell?_spot hc0
    subst hspot
    exact ⟨b, off, rfl, cell_block hc0, fun i hi => ⟨by rw [← (hc i (by omega)).1]; by_cases h0 : i = 0 <;> simp [Addr.add, h0], (hc i (by omega)).2⟩⟩

theorem rows_tot {w : World} {a : Option Addr} {len cap : Nat} {A : Nat → Option Addr} {L C : Nat → Nat} {Z : Nat → List Int} (h : IsRows w a len cap A L C Z) (k : Nat) (hk : k < len) :
    totL ((rowsL len L Z).take (k + 1)) = totL ((rowsL len L Z).take k) + L k := by
  rw [totL_take _ k (by rw [rowsL_len]; exact hk), rowsL_at len L Z k hk]
  rcases h with ⟨_, rfl, _⟩ | ⟨x, h1, h2, h3, h4⟩
  · omega
  · have := (h4 k (by omega)).2.len
    rw [List.length_take]
    omega

theorem szInt64SS_any (a : Option Addr) (len cap : Nat) (A : Nat → Option Addr) (L C : Nat → Nat) (Z : Nat → List Int) (left : Int) (w : World) (h : IsRows w a len cap A L C Z) (h0 : 0 ≤ left) (h1 : left ≤ 1048576) :
    Calls Try.prog 141 #[.slice a len cap, .int .i64 left] w fun e w' =>
      ∃ r, e = .returned (.int .i64 r) ∧ (r = -1 ∨ (0 ≤ r ∧ r = left - len - totL (rowsL len L Z))) ∧ Below w.heap.size w w' := by
  have hl := h.len
  unfold maxLen at hl
  have hw1 : IntKind.i64.wrap (left - (len : Int)) = left - (len : Int) := IntWalk.i64_in _ (by omega)
  by_cases hbig : left - (len : Int) < 0
  · go_enter Try.func141, Try.ntmps141
    go_wp2
    go_ret
    exact ⟨_, rfl, .inl rfl, Below.refl _ _⟩
  · by_cases hz : len = 0
    · subst hz
      have ht : left - ((0 : Nat) : Int) - (totL (rowsL 0 L Z) : Int) = left := by simp [rowsL, totL]
      clear h hw1
      go_enter Try.func141, Try.ntmps141
      go_wp2
      refine wp_loop_rounds 1 ?_
      rw [rounds_succ]
      go_wp2
      go_ret
      exact ⟨_, rfl, .inr ⟨h0, ht.symm⟩, Below.refl _ _⟩
    · have htot := fun k hk => rows_tot h k hk
      obtain ⟨xb, xo, rfl, hxb, hc⟩ := h.parts hz
      have ht0 : totL ((rowsL len L Z).take 0) = 0 := rfl
      have hta : (rowsL len L Z).take len = rowsL len L Z := List.take_of_length_le (by rw [rowsL_len]; exact Nat.le_refl _)
      generalize rowsL len L Z = R at *
      clear h hz
      go_enter Try.func141, Try.ntmps141
      go_wp2
      go_loopw [1, 5] (fun c i wr => ∃ (k : Nat) (d : Int), k ≤ len ∧ i = .int .i64 k ∧ c = .int .i64 d ∧ 0 ≤ d ∧ d ≤ 1048576 ∧ Hid (d = left - len - totL (R.take k)) ∧ Below w.heap.size w wr) (fun _ i _ => len - (intOf i).toNat)
      case atStart => exact ⟨0, _, Nat.zero_le _, rfl, rfl, by omega, by omega, (by rw [ht0]; simp : _ = _), Below.refl _ _⟩
      case round =>
        obtain ⟨k, d, hk, rfl, rfl, hd0, hd1, hd, hb⟩ := hrel
        by_cases hlt : k < len
        · obtain ⟨g1, g2⟩ := hc k hlt
          have g3 : wr.cell? ⟨xb, xo + k, none⟩ = some (.slice (A k) (L k) (C k)) := by rw [hb.cell hxb]; exact g1
          have g4 := g2.len.2
          have hcall := szInt64S_any (A k) (L k) (C k) d wr hd0 hd1 g4
          have hst := htot k hlt
          have hdo := hd.out
          by_cases hs : d - (L k : Int) < 0
          · have e : szR d (L k) = -1 := if_pos hs
            rw [e] at hcall
            clear hc htot g1 g2 e hs hst hdo hta ht0
            generalize A k = ak at *
            generalize L k = lk at *
            generalize C k = ck at *
            go_wp2_with fail
            refine hcall.mono ?_
            rintro e w1 ⟨rfl, rfl⟩
            go_wp2
            go_ret
            exact ⟨_, rfl, .inl rfl, hb⟩
          · have e : szR d (L k) = d - L k := if_neg hs
            rw [e] at hcall
            have HST := Lib.hid (show d - (L k : Int) = left - len - totL (R.take (k + 1)) by omega)
            have hn : d - (L k : Int) ≤ 1048576 := by omega
            have hn0 : 0 ≤ d - (L k : Int) := by omega
            clear hc htot g1 g2 e hst hdo hta ht0
            generalize A k = ak at *
            generalize hlk : L k = lk at *
            generalize C k = ck at *
            clear hlk
            generalize d - (lk : Int) = d' at *
            go_wp2_with fail
            refine hcall.mono ?_
            rintro e w1 ⟨rfl, rfl⟩
            go_wp2
            go_roundw
            case rel => exact ⟨k + 1, d', by omega, by go_num, rfl, hn0, hn, HST, hb⟩
            case measure => simp [intOf]; omega
        · obtain rfl : k = len := by omega
          have hdo := hd.out
          rw [hta] at hdo
          have HDO := Lib.hid hdo
          clear hc htot hdo hta ht0
          go_wp2
          go_ret
          exact ⟨_, rfl, .inr ⟨hd0, HDO.out⟩, hb⟩

theorem Try.infoR : (Try.prog.info? 32).map (fun i => (i.zero, i.size, i.bytes)) = some (some (.slice none 0 0), 1, 24) := by kernel_rfl
theorem grid_made {w w1 : World} {len : Nat} (hE : 32 ≠ 2) (hown : Own 32 hdV w1 w.heap.size (.slice (some ⟨w.heap.size, 0, none⟩) len len) (List.replicate len none)) (hlt : w.heap.size < w1.heap.size) :
    Grid 32 w1 w.heap.size w1.heap.size (.slice (some ⟨w.heap.size, 0, none⟩) len len) (List.replicate len []) := by
  refine ⟨List.replicate len none, by simp, hown, fun g hg => by simp [Value.ownBlock] at hg; omega, fun i hi => ?_, fun i j g hi hj h1 _ => ?_⟩
  · simp at hi
    rw [show (List.replicate len (none : Hd)).getD i none = none by simp [hi], show (List.replicate len ([] : List Int)).getD i [] = [] by simp [hi]]
    exact ⟨Ints.nil _ _, fun g hg => by simp [hdV, Value.ownBlock] at hg⟩
  · simp at hi
    rw [show (List.replicate len (none : Hd)).getD i none = none by simp [hi]] at h1
    simp [hdV, Value.ownBlock] at h1
theorem rows_step (R : List (List Int)) (len k : Nat) (hl : R.length = len) (hk : k < len) :
    (R.take k ++ List.replicate (len - k) []).set k (R.getD k []) = R.take (k + 1) ++ List.replicate (len - (k + 1)) [] := by
  have h1 : (R.take k).length = k := by simp; omega
  rw [List.set_append_right _ _ (by omega), h1, Nat.sub_self, List.take_succ_eq_append_getElem (by omega), show len - k = (len - (k + 1)) + 1 by omega, List.replicate_succ, List.set_cons_zero, List.append_assoc]
  simp [show k < R.length by omega]

theorem toInt64SS_any (a : Option Addr) (len cap : Nat) (A : Nat → Option Addr) (L C : Nat → Nat) (Z : Nat → List Int) (w : World) (h : IsRows w a len cap A L C Z) (hbig : len ≤ 1048576) (hrows : ∀ r, r < len → L r ≤ 1048576) :
    Calls Try.prog 144 #[.slice a len cap] w fun e w' =>
      e = .returned (.slice (some ⟨w.heap.size, 0, none⟩) len len) ∧ Grid 32 w' w.heap.size w'.heap.size (.slice (some ⟨w.heap.size, 0, none⟩) len len) (rowsL len L Z) ∧ Below w.heap.size w w' := by
  have hE : 32 ≠ 2 := by decide
  obtain ⟨i0, hi, hz0, hz1, hz2⟩ := info_parts Try.infoR
  have hRl := rowsL_len len L Z
  have hRa := fun r hr => rowsL_at len L Z r hr
  have hta : (rowsL len L Z).take len = rowsL len L Z := List.take_of_length_le (by rw [rowsL_len]; exact Nat.le_refl _)
  generalize rowsL len L Z = R at *
  go_enter Try.func144, Try.ntmps144
  go_wp2_with (at_make; refine wpList_make_full _ rfl _ _ 24 rfl w.heap.size 32 i0 (.slice none 0 0) 1 Try.underlying24 hi hz0 hz1 _ _ _ _ len rfl rfl rfl rfl (by rw [hz2]; omega) (by unfold maxLen; omega) (Nat.le_refl _) ?_)
  intro w1 hown hg
  have hb1 : Below w.heap.size w w1 := (Below.refl _ _).grown hg (Nat.le_refl _) (by simp)
  have hO : Own 32 hdV w1 w.heap.size (.slice (some ⟨w.heap.size, 0, none⟩) len len) (List.replicate len none) := by
    unfold Own
    simpa [toList_madeCells_one, hdV] using hown
  have hlt1 : w.heap.size < w1.heap.size := by
    rcases hO.shape with ⟨h, _⟩ | ⟨g, c, h, _, h', _⟩
    · simp at h
    · simp at h; omega
  have h1 := grid_made hE hO hlt1
  have h1' : Grid 32 w1 w.heap.size w1.heap.size (.slice (some ⟨w.heap.size, 0, none⟩) len len) (R.take 0 ++ List.replicate (len - 0) []) := h1
  have hNew : w1.heap.size = w1.heap.size := rfl
  clear hown hg hi hz0 hz1 hz2 hO h1
  go_wp2
  go_loopw [4] (fun i wr => ∃ k : Nat, k ≤ len ∧ i = .int .i64 k ∧ w.heap.size < wr.heap.size ∧ Grid 32 wr w.heap.size wr.heap.size (.slice (some ⟨w.heap.size, 0, none⟩) len len) (R.take k ++ List.replicate (len - k) []) ∧ Below w.heap.size w wr)
    (fun i _ => len - (intOf i).toNat)
  case atStart => exact ⟨0, Nat.zero_le _, rfl, hlt1, h1', hb1⟩
  case round =>
    obtain ⟨k, hk, rfl, hsz, hr, hb⟩ := hrel
    by_cases hlt : k < len
    · obtain ⟨xb, xo, rfl, hxb, hc⟩ := h.parts (by omega)
      obtain ⟨g1, g2⟩ := hc k hlt
      have g3 : wr.cell? ⟨xb, xo + k, none⟩ = some (.slice (A k) (L k) (C k)) := by rw [hb.cell hxb]; exact g1
      have hcall := toInt64S_any (A k) (L k) (C k) (Z k) wr (g2.below hb) (hrows k hlt)
      rw [← hRa k hlt] at hcall
      have hll : (R.take k ++ List.replicate (len - k) []).length = len := by simp; omega
      have hfin : ∀ w2, Ints w2 wr.heap.size (hdV (some (wr.heap.size, L k, L k))) (R.getD k []) → Below wr.heap.size wr w2 →
          (∃ u, w2.cell? ⟨w.heap.size, k, none⟩ = some u) ∧ w2.frozen? ⟨w.heap.size, k, none⟩ = false ∧
          Grid 32 (w2.setCell ⟨w.heap.size, k, none⟩ (hdV (some (wr.heap.size, L k, L k)))) w.heap.size (w2.setCell ⟨w.heap.size, k, none⟩ (hdV (some (wr.heap.size, L k, L k)))).heap.size (.slice (some ⟨w.heap.size, 0, none⟩) len len) (R.take (k + 1) ++ List.replicate (len - (k + 1)) []) ∧
          Below w.heap.size w (w2.setCell ⟨w.heap.size, k, none⟩ (hdV (some (wr.heap.size, L k, L k)))) ∧ w.heap.size < (w2.setCell ⟨w.heap.size, k, none⟩ (hdV (some (wr.heap.size, L k, L k)))).heap.size := fun w2 hi2 hb2 => by
        have hr2 := hr.below hb2
        obtain ⟨u, hu, _, _⟩ := hr2.row k (by rw [hll]; exact hlt)
        have hs2 := hb2.size
        have hp := hr2.put (C' := w2.heap.size) hE hs2 k (by rw [hll]; exact hlt) hi2 (by omega) hi2.ownUnder
        rw [rows_step R len k hRl hlt] at hp
        refine ⟨⟨u, hu⟩, hr2.free k, by simpa using hp, (hb.trans (hb2.mono (by omega))).setCell (Nat.le_refl _) _, by simp; omega⟩
      have HF := Lib.hid hfin
      clear hfin hRa hRl hta hrows hc g1 g2 hll h h1' hb1
      generalize R.getD k [] = rk at *
      generalize A k = ak at *
      generalize L k = lk at *
      generalize C k = ck at *
      go_wp2_with fail
      refine hcall.mono ?_
      rintro e w2 ⟨rfl, hi2, hb2⟩
      obtain ⟨⟨u, hu⟩, hfr, hG, hB, hS⟩ := HF.out w2 hi2 hb2
      have hdv : hdV (some (wr.heap.size, lk, lk)) = .slice (some ⟨wr.heap.size, 0, none⟩) lk lk := rfl
      rw [hdv] at hG hB hS
      clear hi2 hb2 hdv
      go_wp2
      go_roundw
      case rel => exact ⟨k + 1, by omega, by go_num, hS, hG, hB⟩
      case measure => simp [intOf]; omega
    · obtain rfl : k = len := by omega
      rw [hta, Nat.sub_self, List.replicate_zero, List.append_nil] at hr
      clear hRa hRl hta hrows h h1' hb1
      go_wp2
      go_ret
      exact ⟨rfl, hr, hb⟩
end Go.Proofs.Ytgjmhihomklooaa
