/- Multiplex, the model's: l04Sort, SortBeat. Conditions: a list of at most 10^6 numbers. -/
import Derived.Test.YtgjmhihomklooaaSortBe
import Derived.Test.YtgjmhihomklooaaSpecThr
import Derived.Test.YtgjmhihomklooaaShape
import Derived.Test.YtgjmhihomklooaaValidM
import Derived.Deep.AppendLies
import Derived.Deep.RegionHeld3
import Derived.Deep.RegionLaw
namespace Go.Proofs.Ytgjmhihomklooaa
open Go.RowKit
set_option linter.unusedSimpArgs false
set_option linter.unusedVariables false

/-! ### plain -/
/-- x is put to its place among falling numbers -/
theorem ins_desc {b : List Int} {i k : Nat} {x : Int} (hi : i < b.length) (hx : b.getD i 0 = x) (hx0 : x ≠ 0) (hk : k ≤ (descL (b.take i)).length)
    (hlow : ∀ j, k ≤ j → j < (descL (b.take i)).length → (descL (b.take i)).getD j 0 < x) (hup : 0 < k → x ≤ (descL (b.take i)).getD (k - 1) 0) :
    (descL (b.take i)).take k ++ [x] ++ (descL (b.take i)).drop k = descL (b.take (i + 1)) := by
  have hs := descL_sorted (b.take i)
  have hp := descL_perm (b.take i)
  have hn := nz_take i hi
  rw [hx, if_neg hx0] at hn
  generalize descL (b.take i) = out at *
  have hsp := List.pairwise_iff_getElem.1 hs
  have hat : ∀ j (h : j < out.length), out.getD j 0 = out[j] := fun j h => by simp [h]
  refine descL_of ?_ ?_
  · rw [hn, List.append_assoc]
    show (out.take k ++ x :: out.drop k).Perm _
    refine List.perm_middle.trans ?_
    rw [List.take_append_drop]
    exact (List.Perm.cons x hp).trans (List.perm_append_singleton x _).symm
  · rw [List.append_assoc]
    show (out.take k ++ x :: out.drop k).Pairwise _
    have htk : ∀ a ∈ out.take k, x ≤ a := fun a ha => by
      obtain ⟨j, hj, rfl⟩ := List.getElem_of_mem ha
      simp only [List.length_take] at hj
      rw [List.getElem_take]
      have h0 : 0 < k := by omega
      have h1 := hup h0
      rw [hat (k - 1) (by omega)] at h1
      by_cases e : j = k - 1
      · subst e; exact h1
      · have := hsp j (k - 1) (by omega) (by omega) (by omega)
        simp only [geB, decide_eq_true_eq] at this
        omega
    have hdr : ∀ a ∈ out.drop k, a < x := fun a ha => by
      obtain ⟨j, hj, rfl⟩ := List.getElem_of_mem ha
      simp only [List.length_drop] at hj
      rw [List.getElem_drop]
      have h1 := hlow (k + j) (by omega) (by omega)
      rwa [hat (k + j) (by omega)] at h1
    rw [List.pairwise_append]
    refine ⟨hs.sublist (List.take_sublist _ _), ?_, fun a ha b hb => ?_⟩
    · rw [List.pairwise_cons]
      exact ⟨fun b hb => by have := hdr b hb; simp only [geB, decide_eq_true_eq]; omega, hs.sublist (List.drop_sublist _ _)⟩
    · have h1 := htk a ha
      simp only [geB, decide_eq_true_eq]
      rcases List.mem_cons.1 hb with rfl | hb
      · exact h1
      · have := hdr b hb; omega
theorem skip_desc {b : List Int} {i : Nat} (hi : i < b.length) (hx : b.getD i 0 = 0) : descL (b.take (i + 1)) = descL (b.take i) := by
  have hn := nz_take i hi
  rw [if_pos hx, List.append_nil] at hn
  unfold descL
  rw [hn]
/-- 'append(own, y)' at a step of a region that draws its order -/
theorem step_append_int (w : World) {ops : Array Oper} {o : Oper} {a : Act} {K : Act → World → Prop} {Q : Exit → Act → World → Prop} {E : Prop} (hgd : o.guard = none) (s x : Operand)
    (ho : o.op = .call { callee := .builtin .append, args := #[s, x], argTypes := #[32, 32] }) (B : Nat) (v : Value) (xs : List Int) (hs : a.eval s = v) (h : Ints w B v xs) (G : Nat) (y : Int)
    (hx : a.eval x = .slice (some ⟨G, 0, none⟩) 1 1) (hcell : w.cell? ⟨G, 0, none⟩ = some (.int .i64 y)) (hlen : xs.length ≤ 1000000000) (hB : B ≤ w.heap.size)
    (hK : ∀ g cap l w', Ints w' B (.slice (some ⟨g, 0, none⟩) l cap) (xs ++ [y]) → w.grownBy w' v.ownBlock → K (a.put o.dst (.slice (some ⟨g, 0, none⟩) l cap)) w') :
    if Region.wanted o (yielded ops a.tmps) = true then Oper.wp Try.prog o a w K Q else E := by
  obtain ⟨i0, hi, hz0, hz1, hz2⟩ := info_parts Try.info64
  refine step_append_lies w hgd s x 32 ho B 2 i0 (.int .i64 0) 1 8 Try.underlying32 hi hz0 hz1 hz2 rfl (by decide) v xs.length _ hs h ⟨G, 0, none⟩ 1 1 [.int .i64 y] hx rfl ?_ ?_ (by decide) (by unfold maxLen; omega) (by omega) hB w.heap.size rfl ?_
  · intro j u hj
    match j, hj with
    | 0, hj => simp at hj; subst hj; simpa [Addr.add] using hcell
  · intro u hu; simp at hu; subst hu; rfl
  · intro g cap w' h1 h2 _ _
    refine hK g cap (xs.length + 1) w' ?_ h2
    unfold Ints
    simpa using h1
theorem new_cell (w : World) (q : Nat) (x : Int) : ((w.drewN q).alloc (.cells #[.int .i64 x] 2)).cell? ⟨w.heap.size, 0, none⟩ = some (.int .i64 x) := by
  have e : ((w.drewN q).alloc (.cells #[.int .i64 x] 2)).heap[w.heap.size]? = some (.cells #[.int .i64 x] 2) := by
    show (w.heap.push _)[w.heap.size]? = _
    exact Array.getElem?_push_size
  simp only [World.cell?, e]
  rfl
theorem sees_drop {w0 : World} {B g m cap : Nat} {out : List Int} (h : Ints w0 B (.slice (some ⟨g, 0, none⟩) m cap) out) (hm : m = out.length) (hg : g < w0.heap.size) (hc : m ≤ cap) (hc2 : cap ≤ 9223372036854775807) (W : World) (hW : Below w0.heap.size w0 W) (k : Nat) (hk : k ≤ m) :
    Sees W (.slice (some ⟨g, k, none⟩) (m - k) (cap - k)) (out.drop k) := by
  subst hm
  exact (h.below hW).drop_ k (by have := hW.size; omega) hc hc2 hk
theorem elem_row : Try.prog.elem 32 = 2 := by kernel_rfl
theorem size_row (W : World) : (sizeOf 2).run Try.prog W = .ok 1 W := by kernel_rfl
/-- the rest of a row from a place on: what slicing gives, and what it reads as -/
theorem drop_run {w0 : World} {B g m cap : Nat} {out : List Int} (h : Ints w0 B (.slice (some ⟨g, 0, none⟩) m cap) out) (hm : m = out.length) (hg : g < w0.heap.size) (hc : m ≤ cap) (hc2 : cap ≤ 9223372036854775807) (k : Nat) (hk : k ≤ m) :
    ∃ S : Value, (∀ W, (Instr.slice 32 (.slice (some ⟨g, 0, none⟩) m cap) (some (.int .i64 (k : Int))) none none).run Try.prog W = .ok S W) ∧ ∀ W, Below w0.heap.size w0 W → Sees W S (out.drop k) := by
  have he : ∀ W : World, (Instr.slice 32 (.slice (some ⟨g, 0, none⟩) m cap) (some (.int .i64 (k : Int))) none none).run Try.prog W = .ok (sliced (some ⟨g, 0, none⟩) k m cap 1) W := fun W => by
    have h1 := run_slice_l (P := Try.prog) (w := W) 32 (some ⟨g, 0, none⟩) m cap (by rw [elem_row]; exact Try.underlying32) .i64 (k : Int) (by omega) (by omega)
    rw [h1]
    rw [elem_row, size_row]
    simp [Result.andThen]
  refine ⟨_, he, fun W hW => ?_⟩
  have hd := sees_drop h hm hg hc hc2 W hW k hk
  by_cases hck : cap = k
  · have hmk : m = k := by omega
    have e0 : out.drop k = [] := List.drop_eq_nil_of_le (by omega)
    rw [e0]
    subst hck
    subst hmk
    exact ⟨g, 0, 0, by simp [sliced], by have := hW.size; omega, Nat.le_refl _, by omega, fun i hi => absurd hi (Nat.not_lt_zero _)⟩
  · have e0 : sliced (some ⟨g, 0, none⟩) k m cap 1 = .slice (some ⟨g, k, none⟩) (m - k) (cap - k) := by
      simp only [sliced, if_neg hck, Option.map_some, Nat.mul_one, Addr.add]
      by_cases hk0 : k = 0
      · subst hk0; rfl
      · simp [hk0]
    rw [e0]
    exact hd
/-- 'append(own, row...)', the new slice written out -/
theorem append_sees_sh (w0 : World) {ops : Array Oper} {rest : List Oper} {o : Oper} {a : Act} {Q : Exit → Act → World → Prop} (hgd : o.guard = none) (s x : Operand)
    (ho : o.op = .call { callee := .builtin .append, args := #[s, x], argTypes := #[32, 32] }) (B : Nat) (v : Value) (xs : List Int) (hs : a.eval s = v) (h : Ints w0 B v xs) (u : Value) (ys : List Int)
    (hx : a.eval x = u) (hy : Sees w0 u ys) (hlen : xs.length + ys.length ≤ 1000000000) (hB : B ≤ w0.heap.size) (L : List Int) (hL : xs ++ ys = L) (h1 : 1 ≤ L.length)
    (hK : ∀ g cap w', Ints w' B (.slice (some ⟨g, 0, none⟩) L.length cap) L → L.length ≤ cap → cap ≤ 9223372036854775807 → g < w'.heap.size → w0.grownBy w' v.ownBlock → wpList Try.prog ops Q rest (a.put o.dst (.slice (some ⟨g, 0, none⟩) L.length cap)) w') :
    wpList Try.prog ops Q (o :: rest) a w0 := by
  subst hL
  refine append_sees w0 hgd 32 Try.underlying32 s x ho B v xs hs h u ys hx hy hlen hB fun v' w' i5 gr => ?_
  obtain ⟨g, cap, rfl, _, hg, hc, hm⟩ := i5.shape2 h1
  exact hK g cap w' i5 hc hm hg gr
theorem own_take {w0 : World} {B g m cap : Nat} {out : List Int} (h : Ints w0 B (.slice (some ⟨g, 0, none⟩) m cap) out) (hm : m = out.length) (hg : g < w0.heap.size) (hc : m ≤ cap) (hc2 : cap ≤ 9223372036854775807) (h5 : m ≤ 5000000) (W : World) (hW : Below w0.heap.size w0 W) (k : Nat) (hk : k ≤ m) :
    Calls Try.prog 66 #[.slice (some ⟨g, 0, none⟩) k cap] W fun e w' => ∃ u, e = .returned u ∧ Ints w' W.heap.size u (out.take k) ∧ Below W.heap.size W w' := by
  subst hm
  exact l00Own_any _ (out.take k) W ((h.below hW).take_ k (by have := hW.size; omega) hc hc2 hk) (by simp; omega)

/-! ### the walk -/
set_option maxRecDepth 10000 in
set_option maxHeartbeats 2000000 in
theorem l04Sort_row (g cap n B : Nat) (b : List Int) (w : World) (h : Ints w B (.slice (some ⟨g, 0, none⟩) n cap) b) (hn : n = b.length) (hg : g < w.heap.size) (hlen : n ≤ 5000000) :
    Calls Try.prog 67 #[.slice (some ⟨g, 0, none⟩) n cap] w fun e w' => ∃ u, e = .returned u ∧ Ints w' w.heap.size u (sortL b) ∧ Below w.heap.size w w' := by
  have HC := Lib.hid (fun i (hi : i < n) => show w.cell? ⟨g, i, none⟩ = some (.int .i64 (b.getD i 0)) from h.cell i (by omega))
  have HINS := Lib.hid (fun i (hi : i < n) k x => ins_desc (b := b) (i := i) (k := k) (x := x) (by omega))
  have HSKIP := Lib.hid (fun i (hi : i < n) => skip_desc (b := b) (i := i) (by omega))
  have HLEN := Lib.hid (fun i => show (descL (b.take i)).length ≤ 5000000 from by
    rw [descL_len]
    have h1 : (nz (b.take i)).length ≤ (b.take i).length := List.length_filter_le _ _
    have h2 : (b.take i).length ≤ b.length := by simp; omega
    omega)
  have HFIN0 := Lib.hid (fun (h0 : (descL (b.take n)).length = 0) => show sortL b = [0] from by
    rw [descL_len, hn, List.take_length] at h0
    simp [sortL, h0])
  have HFIN1 := Lib.hid (fun (h0 : (descL (b.take n)).length ≠ 0) => show sortL b = descL (b.take n) from by
    rw [descL_len, hn, List.take_length] at h0
    rw [hn, List.take_length]
    simp [sortL, h0])
  have H00 : Hid (descL (b.take 0) = []) := by unfold Hid; simp [descL, nz]
  clear h hn
  go_enter Try.func67, Try.ntmps67
  go_wp2
  go_loopw [3, 4] (fun v i wr => ∃ k g2 m c2 : Nat, k ≤ n ∧ i = .int .i64 k ∧ v = .slice (some ⟨g2, 0, none⟩) m c2 ∧ m = (descL (b.take k)).length ∧ m ≤ c2 ∧ c2 ≤ 9223372036854775807 ∧ g2 < wr.heap.size ∧ Ints wr w.heap.size (.slice (some ⟨g2, 0, none⟩) m c2) (descL (b.take k)) ∧ Below w.heap.size w wr) (fun _ i _ => n - (intOf i).toNat)
  case atStart => exact ⟨0, w.heap.size, 0, 0, Nat.zero_le _, rfl, rfl, by rw [H00.out]; rfl, by omega, by omega, by simp, by rw [H00.out]; exact ownInts_empty w (Nat.le_refl _), (Below.refl _ _).alloc (Nat.le_refl _) _⟩
  case round =>
    obtain ⟨i, g2, m, c2, hi, rfl, rfl, hm, hmc, hc2, hg2, hO, hb⟩ := hrel
    have hml := HLEN.out i
    by_cases hlt : i < n
    · have hcx : wr.cell? ⟨g, i, none⟩ = some (.int .i64 (b.getD i 0)) := (hb.cell (p := ⟨g, i, none⟩) hg).trans (HC.out i hlt)
      have HI := Lib.hid (HINS.out i hlt)
      have HK := Lib.hid (HSKIP.out i hlt)
      generalize b.getD i 0 = x at *
      by_cases hx0 : x = 0
      · have hst := Lib.hid (HK.out hx0)
        subst hx0
        go_wp2
        go_roundw
        case rel => exact ⟨i + 1, g2, m, c2, by omega, by go_num, rfl, by rw [hst.out]; exact hm, hmc, hc2, hg2, by rw [hst.out]; exact hO, hb⟩
        case measure => simp [intOf]; omega
      · have hx0' : (x == 0) = false := by simpa using hx0
        have hcell := Lib.hid (fun j (hj : j < m) => show wr.cell? ⟨g2, j, none⟩ = some (.int .i64 ((descL (b.take i)).getD j 0)) from hO.cell j (by omega))
        have hI2 : ∀ k, k ≤ m → (∀ j, k ≤ j → j < m → (descL (b.take i)).getD j 0 < x) → (0 < k → x ≤ (descL (b.take i)).getD (k - 1) 0) → (descL (b.take i)).take k ++ [x] ++ (descL (b.take i)).drop k = descL (b.take (i + 1)) := fun k hk h1 h2 => HI.out k x rfl hx0 (by omega) (fun j hj1 hj2 => h1 j hj1 (by omega)) h2
        have HI2 := Lib.hid hI2
        obtain ⟨out, hout⟩ : ∃ out, descL (b.take i) = out := ⟨_, rfl⟩
        rw [hout] at hm hO hcell HI2 hml
        obtain ⟨LL, hLL⟩ : ∃ L, descL (b.take (i + 1)) = L := ⟨_, rfl⟩
        rw [hLL] at HI2
        have HLL := Lib.hid hLL
        clear HI HK hout hI2 hLL
        have hm5 : m ≤ 5000000 := by omega
        have hM := Lib.hid hm
        have HO := Lib.hid hO
        clear hm hml hO HC HINS HSKIP HLEN HFIN0 HFIN1 H00
        go_wp2
        go_loopw [5] (fun c wr' => ∃ k : Nat, k ≤ m ∧ c = .int .i64 k ∧ Hid (∀ j, k ≤ j → j < m → out.getD j 0 < x) ∧ ∃ q, wr' = wr.drewN q) (fun c _ => (intOf c).toNat)
        case atStart => exact ⟨m, Nat.le_refl _, rfl, fun j h1 h2 => by omega, 0, rfl⟩
        case round =>
          obtain ⟨k, hk, rfl, hlow, q, rfl⟩ := hrel
          cases k with
          | zero =>
            have HNEW := Lib.hid (fun q => new_cell wr q x)
            have HOWN := Lib.hid (fun W (hW : Below wr.heap.size wr W) => show Calls Try.prog 66 #[.slice (some ⟨g2, 0, none⟩) (0) c2] W fun e w' => ∃ u, e = .returned u ∧ Ints w' wr.heap.size u (out.take (0)) ∧ Below W.heap.size W w' ∧ Below wr.heap.size wr w' ∧ w'.cell? ⟨g, i, none⟩ = some (.int .i64 x) from
              (own_take HO.out hM.out hg2 hmc hc2 hm5 W hW (0) (by omega)).mono fun e w' ⟨u, h1, h2, h3⟩ => by
                have b2 := hW.trans (h3.mono hW.size)
                exact ⟨u, h1, h2.mono hW.size, h3, b2, (b2.cell (p := ⟨g, i, none⟩) (by show g < _; have := hb.size; omega)).trans hcx⟩)
            have HDROP := Lib.hid (fun W (hW : Below wr.heap.size wr W) => sees_drop HO.out hM.out hg2 hmc hc2 W hW 0 (by omega))
            have HL2 := Lib.hid (show (out.take (0) ++ [x]).length + (out.drop (0)).length ≤ 1000000000 from by have := hM.out; simp only [List.length_append, List.length_take, List.length_drop, List.length_cons, List.length_nil]; omega)
            have HFIN := Lib.hid (show out.take (0) ++ [x] ++ out.drop (0) = LL from HI2.out (0) (by omega) hlow.out (fun h => absurd h (Nat.lt_irrefl 0)))
            have HL1 := Lib.hid (show 1 ≤ LL.length from by rw [← HFIN.out]; simp only [List.length_append, List.length_cons]; omega)
            clear hlow hcell
            go_wp2
            go_quiet (fail)
            go_wp2
            go_region_law (first | (refine step_append_int _ rfl _ _ rfl wr.heap.size _ _ rfl (by first | exact i1 | exact Ints.alloc i1 _) _ x rfl (by first | (simp; done) | exact (b1.cell (p := ⟨wr.heap.size, 0, none⟩) (by simp)).trans (HNEW.out _)) (by have := List.length_take_le (0) out; omega) (by first | exact bw.size | (have := bw.size; simp at this ⊢; omega)) ?_; intro g4 c4 l4 w4 i4 gr4; (first | have b4 := i1.below_grown bw bw.size gr4 | have b4 := (Ints.alloc i1 _).below_grown (bw.alloc bw.size _) (by have := bw.size; simp at this ⊢; omega) gr4)) | (go_simp; go_at_call 66; refine (HOWN.out _ (by repeat (first | exact Below.refl _ _ | refine Below.drew ?_ | refine below_drewN ?_ _ | refine below_alM ?_ _))).mono ?_; rintro e w1 ⟨u, rfl, i1, b1, bw, hcw⟩))
            all_goals (have I4 := Lib.hid i4; clear HOWN HNEW i4 i1 b1 bw hcw gr4)
            all_goals go_wp2_with (at_builtin; refine append_sees_sh _ rfl _ _ rfl _ _ _ rfl I4.out _ (out.drop (0)) rfl (HDROP.out w4 b4) HL2.out b4.size _ HFIN.out HL1.out ?_; intro g5 c5 w5 i5 hc5 hc6 hg5 gr5; refine Hid.out ?_)
            all_goals (have b5 := I4.out.below_grown b4 b4.size gr5; rw [← HLL.out] at i5; have I5 := Lib.hid i5; clear i5 I4 b4 gr5)
            all_goals refine Lib.hid ?_
            all_goals go_wp2
            all_goals go_roundw
            all_goals first | exact ⟨i + 1, g5, _, c5, by omega, by go_num, rfl, by rw [HLL.out], hc5, hc6, hg5, by rw [HLL.out]; have := I5.out; rw [HLL.out] at this; exact this.mono hb.size, hb.trans (b5.mono hb.size)⟩ | ((repeat apply Exists.intro); exact ⟨⟨i + 1, g5, _, c5, by omega, by go_num, rfl, by rw [HLL.out], hc5, hc6, hg5, by rw [HLL.out]; have := I5.out; rw [HLL.out] at this; exact this.mono hb.size, hb.trans (b5.mono hb.size)⟩, rfl⟩) | (simp [intOf]; omega)
          | succ j =>
            have hcy : wr.cell? ⟨g2, j, none⟩ = some (.int .i64 (out.getD j 0)) := hcell.out j (by omega)
            have hpos : (0 : Int) < ((j + 1 : Nat) : Int) := by omega
            by_cases hlt2 : out.getD j 0 < x
            · have HNL := Lib.hid (show ∀ q, j ≤ q → q < m → out.getD q 0 < x from fun q h1 h2 => by
                by_cases e : q = j
                · subst e; exact hlt2
                · exact hlow.out q (by omega) h2)
              generalize out.getD j 0 = y at *
              clear hlow
              go_wp2
              go_quiet (fail)
              go_wp2
              go_roundw
              case rel => first | exact ⟨j, by omega, by go_num, HNL.out, _, rfl⟩ | ((repeat apply Exists.intro); exact ⟨⟨j, by omega, by go_num, HNL.out, _, rfl⟩, rfl⟩)
              case measure => simp [intOf]
            · have hnl : decide (out.getD j 0 < x) = false := decide_eq_false hlt2
              have hj0 : (0 : Int) ≤ (j : Int) + 1 := by omega
              have hjc : (j : Int) + 1 ≤ (c2 : Int) := by omega
              have HNEW := Lib.hid (fun q => new_cell wr q x)
              have HOWN := Lib.hid (fun W (hW : Below wr.heap.size wr W) => show Calls Try.prog 66 #[.slice (some ⟨g2, 0, none⟩) (j + 1) c2] W fun e w' => ∃ u, e = .returned u ∧ Ints w' wr.heap.size u (out.take (j + 1)) ∧ Below W.heap.size W w' ∧ Below wr.heap.size wr w' ∧ w'.cell? ⟨g, i, none⟩ = some (.int .i64 x) from
                (own_take HO.out hM.out hg2 hmc hc2 hm5 W hW (j + 1) (by omega)).mono fun e w' ⟨u, h1, h2, h3⟩ => by
                  have b2 := hW.trans (h3.mono hW.size)
                  exact ⟨u, h1, h2.mono hW.size, h3, b2, (b2.cell (p := ⟨g, i, none⟩) (by show g < _; have := hb.size; omega)).trans hcx⟩)
              obtain ⟨S, hS0, hS2⟩ := drop_run HO.out hM.out hg2 hmc hc2 (j + 1) (by omega)
              have hS1 : ∀ W, (Instr.slice 32 (.slice (some ⟨g2, 0, none⟩) m c2) (some (.int .i64 ((j : Int) + 1))) none none).run Try.prog W = .ok S W := hS0
              have HDROP := Lib.hid hS2
              clear hS0 hS2
              have HL2 := Lib.hid (show (out.take (j + 1) ++ [x]).length + (out.drop (j + 1)).length ≤ 1000000000 from by have := hM.out; simp only [List.length_append, List.length_take, List.length_drop, List.length_cons, List.length_nil]; omega)
              have HFIN := Lib.hid (show out.take (j + 1) ++ [x] ++ out.drop (j + 1) = LL from HI2.out (j + 1) (by omega) hlow.out (fun _ => by rw [show j + 1 - 1 = j from rfl]; omega))
              have HL1 := Lib.hid (show 1 ≤ LL.length from by rw [← HFIN.out]; simp only [List.length_append, List.length_cons]; omega)
              generalize out.getD j 0 = y at *
              clear hlow hcell
              go_wp2
              go_quiet (fail)
              go_wp2
              go_region_law (first | (refine step_append_int _ rfl _ _ rfl wr.heap.size _ _ rfl (by first | exact i1 | exact Ints.alloc i1 _) _ x rfl (by first | (simp; done) | exact (b1.cell (p := ⟨wr.heap.size, 0, none⟩) (by simp)).trans (HNEW.out _)) (by have := List.length_take_le (j + 1) out; omega) (by first | exact bw.size | (have := bw.size; simp at this ⊢; omega)) ?_; intro g4 c4 l4 w4 i4 gr4; (first | have b4 := i1.below_grown bw bw.size gr4 | have b4 := (Ints.alloc i1 _).below_grown (bw.alloc bw.size _) (by have := bw.size; simp at this ⊢; omega) gr4)) | (go_simp; go_at_call 66; refine (HOWN.out _ (by repeat (first | exact Below.refl _ _ | refine Below.drew ?_ | refine below_drewN ?_ _ | refine below_alM ?_ _))).mono ?_; rintro e w1 ⟨u, rfl, i1, b1, bw, hcw⟩))
              all_goals (have I4 := Lib.hid i4; clear HOWN HNEW i4 i1 b1 bw hcw gr4)
              all_goals go_wp2_with (at_builtin; refine append_sees_sh _ rfl _ _ rfl _ _ _ rfl I4.out _ (out.drop (j + 1)) rfl (HDROP.out w4 b4) HL2.out b4.size _ HFIN.out HL1.out ?_; intro g5 c5 w5 i5 hc5 hc6 hg5 gr5; refine Hid.out ?_)
              all_goals (have b5 := I4.out.below_grown b4 b4.size gr5; rw [← HLL.out] at i5; have I5 := Lib.hid i5; clear i5 I4 b4 gr5)
              all_goals refine Lib.hid ?_
              all_goals go_wp2
              all_goals go_roundw
              all_goals first | exact ⟨i + 1, g5, _, c5, by omega, by go_num, rfl, by rw [HLL.out], hc5, hc6, hg5, by rw [HLL.out]; have := I5.out; rw [HLL.out] at this; exact this.mono hb.size, hb.trans (b5.mono hb.size)⟩ | ((repeat apply Exists.intro); exact ⟨⟨i + 1, g5, _, c5, by omega, by go_num, rfl, by rw [HLL.out], hc5, hc6, hg5, by rw [HLL.out]; have := I5.out; rw [HLL.out] at this; exact this.mono hb.size, hb.trans (b5.mono hb.size)⟩, rfl⟩) | (simp [intOf]; omega)
    · obtain rfl : i = n := by omega
      have HF0 := Lib.hid HFIN0.out
      have HF1 := Lib.hid HFIN1.out
      clear HFIN0 HFIN1 H00 HC HINS HSKIP HLEN
      generalize descL (b.take i) = out at *
      by_cases h0 : m = 0
      · have e := Lib.hid (HF0.out (by omega))
        subst h0
        clear hm HF0 HF1 hO hml
        go_wp2
        go_ret
        exact ⟨_, rfl, by rw [e.out]; exact ownInts_one _ 0 hb.size, hb.alloc hb.size _⟩
      · have e := Lib.hid (HF1.out (by omega))
        have h0' : ((m : Int) == 0) = false := by simp; omega
        clear hm HF0 HF1 hml
        go_wp2
        go_ret
        exact ⟨_, rfl, by rw [e.out]; exact hO, hb⟩
theorem l04Sort_any (v : Value) (B : Nat) (b : List Int) (w : World) (h : Ints w B v b) (h1 : 1 ≤ b.length) (hlen : b.length ≤ 5000000) :
    Calls Try.prog 67 #[v] w fun e w' => ∃ u, e = .returned u ∧ Ints w' w.heap.size u (sortL b) ∧ Below w.heap.size w w' := by
  obtain ⟨g, cap, rfl, _, hg, _, _⟩ := h.shape2 h1
  exact l04Sort_row g cap b.length B b w h rfl hg hlen
set_option maxRecDepth 10000 in
theorem l04Sort_zero (a : Option Addr) (cap : Nat) (w : World) :
    Calls Try.prog 67 #[.slice a 0 cap] w fun e w' => ∃ u, e = .returned u ∧ Ints w' w.heap.size u (sortL []) ∧ Below w.heap.size w w' := by
  have e0 : sortL [] = [0] := rfl
  rw [e0]
  go_enter Try.func67, Try.ntmps67
  go_wp2
  refine wp_loop_rounds 1 ?_
  rw [rounds_succ]
  go_wp2
  go_ret
  have h1 := ownInts_one (B := w.heap.size) (w.alloc (.cells #[] 2)) 0 (by simp)
  rw [show (w.alloc (.cells #[] 2)).heap.size = w.heap.size + 1 by simp] at h1
  exact ⟨_, rfl, h1, ((Below.refl w.heap.size w).alloc (Nat.le_refl _) _).alloc (by simp) _⟩
theorem l04Sort_all (v : Value) (B : Nat) (b : List Int) (w : World) (h : Ints w B v b) (hlen : b.length ≤ 5000000) :
    Calls Try.prog 67 #[v] w fun e w' => ∃ u, e = .returned u ∧ Ints w' w.heap.size u (sortL b) ∧ Below w.heap.size w w' := by
  by_cases h0 : b.length = 0
  · have hb : b = [] := List.length_eq_zero_iff.1 h0
    obtain ⟨a, cap, rfl⟩ := h.zero h0
    rw [hb]
    exact l04Sort_zero _ _ _
  · exact l04Sort_any v B b w h (by omega) hlen

/-- what SortBeat does behind the sort -/
theorem sort_out {p : List Int} (h : thrB p = true) : (4 < (sortL p).length → sortC p = 5 ∧ sortR p = []) ∧ (¬ 4 < (sortL p).length → sortC p = 0 ∧ sortR p = sortL p) := by
  have hl := sortL_len p
  constructor
  · intro h4
    refine sort_full h ?_
    split at hl <;> omega
  · intro h4
    have h5 : ¬ 4 < (nz p).length := by split at hl <;> omega
    simp [sortC, sortR, h, h5]

theorem sortR_len (p : List Int) : (sortR p).length ≤ 4 := by
  unfold sortR
  split
  · split
    · simp
    · rename_i h4
      have hl := sortL_len p
      split at hl <;> omega
  · simp
end Go.Proofs.Ytgjmhihomklooaa
