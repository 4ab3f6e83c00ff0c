/- Multiplex: MultiOf, the model's and the program's. Conditions: a list of at most 2^20 numbers. -/
import Derived.Test.YtmnkfflmljeokaaSingleL
namespace Go.Proofs.Ytmnkfflmljeokaa
open Go.RowKit
set_option linter.unusedSimpArgs false
set_option linter.unusedVariables false

/-- what MultiOf answers -/
def ofR (p : List Int) : List (List Int) := if okPat p then singles p else []
def ofC (p : List Int) : Int := if okPat p then 0 else 1
theorem of_bad {p : List Int} (h : okPat p = false) : ofR p = [] ∧ ofC p = 1 := by simp [ofR, ofC, h]
theorem ofR_tot (p : List Int) : totL (ofR p) ≤ 12 := by
  unfold ofR
  by_cases h : okPat p = true
  · rw [if_pos h]
    have h2 := (okPat_len h).2
    have : ∀ q : List Int, totL (singles q) = q.length := fun q => by
      induction q with
      | nil => rfl
      | cons a r ih => simp [singles, totL] at ih ⊢; omega
    rw [this]; exact h2
  · rw [if_neg h]; simp [totL]
theorem of_good {p : List Int} (h : okPat p = true) : ofR p = singles p ∧ ofC p = 0 := by simp [ofR, ofC, h]
theorem Var1.made (w : World) (v : Value) (T : TypeId) : Var1 (w.alloc (.cells #[v] T)) w.heap.size v := by
  have e : (w.alloc (.cells #[v] T)).heap[w.heap.size]? = some (.cells #[v] T) := by
    show (w.heap.push _)[w.heap.size]? = _
    exact Array.getElem?_push_size
  exact ⟨by simp only [World.cell?, e]; rfl, by simp only [World.frozen?, e]; rfl⟩
theorem Var1.below {w w' : World} {b : Nat} {v : Value} (h : Var1 w b v) (hb : Below w.heap.size w w') : Var1 w' b v := h.within (Within.of_below hb w.heap.size w.heap.size) (cell_block h.1)
/-- a result that is a struct of one slice, laid in its variable, and a code behind it -/
theorem grid_out {w1 : World} {b : Nat} {T : TypeId} {B C : Nat} {v : Value} {pss : List (List Int)} (h : Grid T w1 B C v pss) (hb : b < B) (y : Value) : Grid T (w1.setCell ⟨b, 0, none⟩ y) B C v pss :=
  h.keep fun q _ h1 _ => heap_far _ ⟨b, 0, none⟩ _ q (by show b < q; omega)

set_option maxRecDepth 10000 in
theorem multiOf_spec (v : Value) (B : Nat) (p : List Int) (w : World) (h : Ints w B v p) (_hl : p.length ≤ 1048576) :
    Calls Try.prog 39 #[v] w fun e w' => ∃ x y z, e = .returned (.tuple #[.agg #[.slice x y z], .int .i64 (ofC p)]) ∧ Grid 32 w' w.heap.size w'.heap.size (.slice x y z) (ofR p) ∧ Below w.heap.size w w' := by
  have HV := fun W (hW : Below w.heap.size w W) => validPattern_spec v B p W (h.below hW)
  cases hok : okPat p with
  | false =>
    obtain ⟨e1, e2⟩ := of_bad hok
    rw [e1, e2]
    rw [hok] at HV
    clear h hok e1 e2
    go_enter Try.func39, Try.ntmps39
    go_wp2_with fail
    refine (HV _ (below_alM (Below.refl _ _) _)).mono ?_
    rintro e w1 ⟨rfl, b1⟩
    obtain ⟨c1, f1⟩ := (Var1.made w (.slice none 0 0) 26).below b1
    replace b1 := (below_alM (Below.refl w.heap.size w) _).trans (b1.mono (by simp))
    have hres : ∀ y : Value, (w1.setCell ⟨w.heap.size, 0, none⟩ y).cell? ⟨w.heap.size, 0, none⟩ = some y := fun y => World.cell?_setCell_same _ _ _ (u := .slice none 0 0) c1
    go_wp2
    refine bodyPost_ret (v := .tuple #[.agg #[.slice none 0 0], .int .i64 1]) (by simp [results, Try.results39, go_sem, hres]) rfl ?_
    exact ⟨none, 0, 0, rfl, Grid.nil _ _ _ _, b1.setCell (p := ⟨w.heap.size, 0, none⟩) (Nat.le_refl _) _⟩
  | true =>
    obtain ⟨e1, e2⟩ := of_good hok
    obtain ⟨h1, h2⟩ := okPat_len hok
    rw [e1, e2]
    rw [hok] at HV
    have HS := fun W (hW : Below w.heap.size w W) => l04Single_any v B p W (h.below hW) h1 (by omega)
    clear h hok e1 e2 h1 h2
    go_enter Try.func39, Try.ntmps39
    go_wp2_with fail
    refine (HV _ (below_alM (Below.refl _ _) _)).mono ?_
    rintro e w1 ⟨rfl, b1⟩
    have v1 := (Var1.made w (.slice none 0 0) 26).below b1
    have s1 : w.heap.size + 1 ≤ w1.heap.size := by have := b1.size; simpa using this
    replace b1 := (below_alM (Below.refl w.heap.size w) _).trans (b1.mono (by simp))
    clear HV
    go_wp2_with fail
    refine (HS w1 b1).mono ?_
    rintro e w2 ⟨x, y, z, rfl, G2, b2⟩
    obtain ⟨c2, f2⟩ := v1.below b2
    have s2 := b2.size
    replace b2 := b1.trans (b2.mono b1.size)
    have hres : ∀ y : Value, (w2.setCell ⟨w.heap.size, 0, none⟩ y).cell? ⟨w.heap.size, 0, none⟩ = some y := fun y => World.cell?_setCell_same _ _ _ (u := .slice none 0 0) c2
    clear v1 HS b1
    go_wp2
    refine bodyPost_ret (v := .tuple #[.agg #[.slice x y z], .int .i64 0]) (by simp [results, Try.results39, go_sem, hres]) rfl ?_
    exact ⟨x, y, z, rfl, (grid_out G2 (by omega) _).widen (by omega) (by simp), b2.setCell (p := ⟨w.heap.size, 0, none⟩) (Nat.le_refl _) _⟩

set_option maxRecDepth 10000 in
set_option maxHeartbeats 1000000 in
theorem multiOf_row (g cap n B : Nat) (p : List Int) (w : World) (h : Ints w B (.slice (some ⟨g, 0, none⟩) n cap) p) (hn : n = p.length) (hg : g < w.heap.size) (hok : okPat p = true) :
    Calls Try.prog 41 #[.slice (some ⟨g, 0, none⟩) n cap] w fun e w' => ∃ x y z, e = .returned (.tuple #[.agg #[.slice x y z], .int .i64 0]) ∧ Grid 32 w' w.heap.size w'.heap.size (.slice x y z) (singles p) ∧ Below w.heap.size w w' := by
  have HV := fun W (hW : Below w.heap.size w W) => validPattern_impl _ B p W (h.below hW)
  rw [hok] at HV
  have hn2 : n ≤ 12 := by rw [hn]; exact (okPat_len hok).2
  have HC := Lib.hid (fun i (hi : i < n) => show w.cell? ⟨g, i, none⟩ = some (.int .i64 (p.getD i 0)) from h.cell i (by omega))
  have hE : 32 ≠ 2 := by decide
  obtain ⟨i0, hi, hz0, hz1, hz2⟩ := info_parts Try.infoR
  have HSTEP := Lib.hid (fun k (hk : k < n) => rows_step (singles p) n k (by rw [singles_len, hn]) hk)
  have HAT := Lib.hid (fun k (hk : k < n) => show (singles p).getD k [] = [p.getD k 0] from by simp [singles, show k < p.length by omega])
  have HLL := Lib.hid (fun k (hk : k ≤ n) => show ((singles p).take k ++ List.replicate (n - k) []).length = n from by rw [List.length_append, List.length_take, singles_len, List.length_replicate]; omega)
  have HFIN : Hid ((singles p).take n ++ List.replicate (n - n) [] = singles p) := by
    unfold Hid
    rw [Nat.sub_self, List.replicate_zero, List.append_nil, List.take_of_length_le (by rw [singles_len, hn]; exact Nat.le_refl _)]
  clear h hok hn
  go_enter Try.func41, Try.ntmps41
  go_wp2_with fail
  refine (HV _ (below_alM (Below.refl _ _) _)).mono ?_
  rintro e w1 ⟨rfl, b1⟩
  have v1 := (Var1.made w (.slice none 0 0) 26).below b1
  have s1 : w.heap.size + 1 ≤ w1.heap.size := by have := b1.size; simpa using this
  replace b1 := (below_alM (Below.refl w.heap.size w) _).trans (b1.mono (by simp))
  clear HV
  go_wp2_with (at_make; refine wpList_make_full _ rfl _ _ 24 rfl w1.heap.size 32 i0 (.slice none 0 0) 1 Try.underlying24 hi hz0 hz1 _ _ _ _ n rfl rfl rfl rfl (by rw [hz2]; omega) (by unfold maxLen; omega) (Nat.le_refl _) ?_)
  intro w2 hown hg2
  have hb1 : Below w1.heap.size w1 w2 := (Below.refl _ _).grown hg2 (Nat.le_refl _) (by simp)
  have hO : Own 32 hdV w2 w1.heap.size (.slice (some ⟨w1.heap.size, 0, none⟩) n n) (List.replicate n none) := by
    unfold Own
    simpa [toList_madeCells_one, hdV] using hown
  have hlt1 : w1.heap.size < w2.heap.size := by
    rcases hO.shape with ⟨h, _⟩ | ⟨g, c, h, _, h', _⟩
    · simp at h
    · simp at h; omega
  have h1 : Grid 32 w2 w1.heap.size w2.heap.size (.slice (some ⟨w1.heap.size, 0, none⟩) n n) ((singles p).take 0 ++ List.replicate (n - 0) []) := grid_made hE hO hlt1
  clear hown hg2 hi hz0 hz1 hz2 hO
  have V1 := Lib.hid v1
  clear v1
  go_wp2
  go_loopw [16] (fun i wr => ∃ k : Nat, k ≤ n ∧ i = .int .i64 k ∧ w1.heap.size < wr.heap.size ∧ Grid 32 wr w1.heap.size wr.heap.size (.slice (some ⟨w1.heap.size, 0, none⟩) n n) ((singles p).take k ++ List.replicate (n - k) []) ∧ Below w1.heap.size w1 wr) (fun i _ => n - (intOf i).toNat)
  case atStart => exact ⟨0, Nat.zero_le _, rfl, hlt1, h1, hb1⟩
  case round =>
    clear h1 hb1 hlt1
    obtain ⟨k, hk, rfl, hsz, hG, hb⟩ := hrel
    by_cases hlt : k < n
    · have hcx : wr.cell? ⟨g, k, none⟩ = some (.int .i64 (p.getD k 0)) := ((b1.trans (hb.mono b1.size)).cell (p := ⟨g, k, none⟩) hg).trans (HC.out k hlt)
      have hat := HAT.out k hlt
      have hst := HSTEP.out k hlt
      have hll := HLL.out k hk
      rw [hat] at hst
      generalize p.getD k 0 = x at *
      have HS := Lib.hid hst
      obtain ⟨u, hu, _, _⟩ := hG.row k (by rw [hll]; exact hlt)
      have hA : ∀ o, (wr.alloc o).cell? ⟨w1.heap.size, k, none⟩ = some u := fun o => ((below_alM (Below.refl _ _) o).cell (p := ⟨w1.heap.size, k, none⟩) (by show w1.heap.size < _; omega)).trans hu
      have hF : ∀ o, (wr.alloc o).frozen? ⟨w1.heap.size, k, none⟩ = false := fun o => (hG.below (below_alM (Below.refl _ _) o)).free k
      have hput : Grid 32 ((wr.alloc (.cells #[.int .i64 x] 2)).setCell ⟨w1.heap.size, k, none⟩ (.slice (some ⟨wr.heap.size, 0, none⟩) 1 1)) w1.heap.size (wr.heap.size + 1) (.slice (some ⟨w1.heap.size, 0, none⟩) n n) ((singles p).take (k + 1) ++ List.replicate (n - (k + 1)) []) := by
        have h2 := (hG.below (below_alM (Below.refl _ _) (.cells #[.int .i64 x] 2))).put (C' := wr.heap.size + 1) hE (by omega) k (by rw [hll]; exact hlt) (d := some (wr.heap.size, 1, 1)) (p := [x]) (ownInts_one wr x (Nat.le_refl _)) (by omega) (fun g hg => by simp [hdV, Value.ownBlock] at hg; omega)
        rw [HS.out] at h2
        exact h2
      rw [World.setCell_alloc_past _ _ _ _ hsz] at hput
      have HP := Lib.hid hput
      have HBB : Hid (∀ y o, Below w1.heap.size w1 ((wr.setCell ⟨w1.heap.size, k, none⟩ y).alloc o)) := fun y o => (hb.setCell (p := ⟨w1.heap.size, k, none⟩) (Nat.le_refl _) y).alloc (by simp; omega) o
      clear hput hat hst hll hu hG
      go_wp2
      go_roundw
      case rel => exact ⟨k + 1, by omega, by go_num, by simp; omega, by simpa using HP.out, HBB.out _ _⟩
      case measure => simp [intOf]; omega
    · obtain rfl : k = n := by omega
      rw [HFIN.out] at hG
      obtain ⟨c2, f2⟩ := V1.out.below hb
      have hbw := b1.trans (hb.mono b1.size)
      have hres : ∀ y : Value, (wr.setCell ⟨w.heap.size, 0, none⟩ y).cell? ⟨w.heap.size, 0, none⟩ = some y := fun y => World.cell?_setCell_same _ _ _ (u := .slice none 0 0) c2
      clear V1
      go_wp2
      refine bodyPost_ret (v := .tuple #[.agg #[.slice (some ⟨w1.heap.size, 0, none⟩) k k], .int .i64 0]) (by simp [results, Try.results41, go_sem, hres]) rfl ?_
      exact ⟨_, _, _, rfl, (grid_out hG (by omega) _).widen (by omega) (by simp), hbw.setCell (p := ⟨w.heap.size, 0, none⟩) (Nat.le_refl _) _⟩

set_option maxRecDepth 10000 in
theorem multiOf_impl (v : Value) (B : Nat) (p : List Int) (w : World) (h : Ints w B v p) (_hl : p.length ≤ 1048576) :
    Calls Try.prog 41 #[v] w fun e w' => ∃ x y z, e = .returned (.tuple #[.agg #[.slice x y z], .int .i64 (ofC p)]) ∧ Grid 32 w' w.heap.size w'.heap.size (.slice x y z) (ofR p) ∧ Below w.heap.size w w' := by
  cases hok : okPat p with
  | false =>
    have HV := fun W (hW : Below w.heap.size w W) => validPattern_impl v B p W (h.below hW)
    obtain ⟨e1, e2⟩ := of_bad hok
    rw [e1, e2]
    rw [hok] at HV
    clear h hok e1 e2
    go_enter Try.func41, Try.ntmps41
    go_wp2_with fail
    refine (HV _ (below_alM (Below.refl _ _) _)).mono ?_
    rintro e w1 ⟨rfl, b1⟩
    obtain ⟨c1, f1⟩ := (Var1.made w (.slice none 0 0) 26).below b1
    replace b1 := (below_alM (Below.refl w.heap.size w) _).trans (b1.mono (by simp))
    have hres : ∀ y : Value, (w1.setCell ⟨w.heap.size, 0, none⟩ y).cell? ⟨w.heap.size, 0, none⟩ = some y := fun y => World.cell?_setCell_same _ _ _ (u := .slice none 0 0) c1
    go_wp2
    refine bodyPost_ret (v := .tuple #[.agg #[.slice none 0 0], .int .i64 1]) (by simp [results, Try.results41, go_sem, hres]) rfl ?_
    exact ⟨none, 0, 0, rfl, Grid.nil _ _ _ _, b1.setCell (p := ⟨w.heap.size, 0, none⟩) (Nat.le_refl _) _⟩
  | true =>
    obtain ⟨e1, e2⟩ := of_good hok
    rw [e1, e2]
    obtain ⟨g, cap, rfl, _, hg, _, _⟩ := h.shape2 (okPat_len hok).1
    exact multiOf_row g cap p.length B p w h rfl hg hok
end Go.Proofs.Ytmnkfflmljeokaa
