/- The laws' own helpers on slices of throws of a passing pattern: toPassThrowS, eqPassThrowS, markPassThrowS, heldPassThrowS, szPassThrowS. Conditions: bounds on lengths. -/
import Derived.Test.YtjhhldfhfebboaaOwnK
import Derived.Test.YtjhhldfhfebboaaInts
import Derived.Deep.RegionHeldLaw
import Derived.Deep.RegionLawGrows
namespace Go.Proofs.Ytjhhldfhfebboaa
open Go.RowKit
set_option linter.unusedSimpArgs false
set_option linter.unusedVariables false

/-- a throw: its value, and whether it is a pass -/
abbrev Pt := Int × Bool
def p0 : Pt := (0, false)
def pasV (t : Pt) : List Value := [.int .i64 t.1, .bool t.2]
theorem pasV_len (t : Pt) : (pasV t).length = 2 := rfl
abbrev Pas (w : World) (B : Nat) (v : Value) (xs : List Pt) : Prop := OwnK 67 2 pasV w B v xs
def fitP (t : Pt) : Prop := -9223372036854775808 ≤ t.1 ∧ t.1 ≤ 9223372036854775807
abbrev IsPas (w : World) (a : Option Addr) (len cap : Nat) (zs : List Pt) : Prop := IsK 2 pasV fitP w a len cap zs
theorem Try.infoPas : (Try.prog.info? 67).map (fun i => (i.zero, i.size, i.bytes)) = some (some (.agg #[.int .i64 0, .bool false]), 2, 16) := by kernel_rfl

/-- the two cells of a throw -/
def TwoP (w : World) (b o : Nat) (t : Pt) : Prop := w.cell? ⟨b, o, none⟩ = some (.int .i64 t.1) ∧ w.cell? ⟨b, o + 1, none⟩ = some (.bool t.2)
theorem TwoP.below {w w' : World} {N b o : Nat} {t : Pt} (h : TwoP w b o t) (hb : Below N w w') (hN : b < N) : TwoP w' b o t :=
  ⟨(hb.cell (p := ⟨b, o, none⟩) hN).trans h.1, (hb.cell (p := ⟨b, o + 1, none⟩) hN).trans h.2⟩
theorem IsK.twoP {w : World} {a : Option Addr} {len cap : Nat} {zs : List Pt} (h : IsPas w a len cap zs) : len = 0 ∨ ∃ b off, a = some ⟨b, off, none⟩ ∧ b < w.heap.size ∧ ∀ i, i < len → TwoP w b (off + i * 2) (zs.getD i p0) := by
  rcases h.parts pasV_len (by decide) p0 with h | ⟨b, off, ha, hb, hc⟩
  · exact .inl h
  · exact .inr ⟨b, off, ha, hb, fun i hi => ⟨hc i 0 hi (by decide), hc i 1 hi (by decide)⟩⟩
theorem OwnK.twoP {w : World} {e : TypeId} {B g n cap : Nat} {xs : List Pt} (h : OwnK e 2 pasV w B (.slice (some ⟨g, 0, none⟩) n cap) xs) (i : Nat) (hi : i < xs.length) : TwoP w g (i * 2) (xs.getD i p0) :=
  ⟨h.cell pasV_len p0 i 0 hi (by decide), h.cell pasV_len p0 i 1 hi (by decide)⟩
/-- an element is written -/
theorem OwnK.put2 {w : World} {e : TypeId} {B g n cap : Nat} {xs : List Pt} (h : OwnK e 2 pasV w B (.slice (some ⟨g, 0, none⟩) n cap) xs) (i : Nat) (hi : i < xs.length) (y : Pt) :
    OwnK e 2 pasV ((w.setCell ⟨g, i * 2, none⟩ (.int .i64 y.1)).setCell ⟨g, i * 2 + 1, none⟩ (.bool y.2)) B (.slice (some ⟨g, 0, none⟩) n cap) (xs.set i y) := by
  have h1 := h.put pasV_len p0 i 0 (.int .i64 y.1) (y.1, (xs.getD i p0).2) hi (by decide) rfl
  have h2 := h1.put pasV_len p0 i 1 (.bool y.2) y (by simpa using hi) (by decide) (by simp [hi, pasV])
  simpa [List.set_set] using h2
theorem below_two {w w' : World} {N g o : Nat} (h : Below N w w') (hg : N ≤ g) (a b : Value) : Below N w ((w'.setCell ⟨g, o, none⟩ a).setCell ⟨g, o + 1, none⟩ b) :=
  (h.setCell (p := ⟨g, o, none⟩) hg a).setCell (p := ⟨g, o + 1, none⟩) hg b
theorem take_set_pas (zs : List Pt) (n k : Nat) (hk : k < n) (hn : n ≤ zs.length) :
    (zs.take k ++ List.replicate (n - k) p0).set k (zs.getD k p0) = zs.take (k + 1) ++ List.replicate (n - (k + 1)) p0 := by
  have e1 : zs.take (k + 1) = zs.take k ++ [zs.getD k p0] := by
    rw [List.take_succ_eq_append_getElem (by omega)]
    simp [show k < zs.length by omega]
  have hl : (zs.take k).length = k := by simp; omega
  rw [List.set_append_right _ _ (by omega), hl, Nat.sub_self, e1, List.append_assoc]
  congr 1
  rw [show n - k = (n - (k + 1)) + 1 by omega, List.replicate_succ]
  rfl

set_option maxRecDepth 10000 in
theorem toPassThrow_any (v : Int) (c : Bool) (w : World) :
    Calls Try.prog 86 #[.agg #[.int .i64 v, .bool c]] w fun e w' => e = .returned (.agg #[.int .i64 v, .bool c]) ∧ Below w.heap.size w w' := by
  go_enter Try.func86, Try.ntmps86
  go_wp2
  refine bodyPost_ret (v := .agg #[.int .i64 v, .bool c]) (by simp [results, Try.results86, go_sem]) rfl ?_
  exact ⟨rfl, (((Below.refl w.heap.size w).alloc (Nat.le_refl _) _).alloc (by simp) _).alloc (by simp; omega) _⟩

set_option maxRecDepth 10000 in
theorem szPassThrowS_any (a : Option Addr) (len cap : Nat) (left : Int) (w : World) (hm : len ≤ 9223372036854775807) (h0 : 0 ≤ left) (h1 : left ≤ 1048576) :
    Calls Try.prog 47 #[.slice a len cap, .int .i64 left] w fun e w' => ∃ r, e = .returned (.int .i64 r) ∧ (r = -1 ∨ (0 ≤ r ∧ r = left - len)) ∧ Below w.heap.size w w' := by
  by_cases hl : left - (len : Int) < 0
  · go_enter Try.func47, Try.ntmps47
    go_wp2
    go_ret
    exact ⟨_, rfl, .inl rfl, Below.refl _ _⟩
  · go_enter Try.func47, Try.ntmps47
    go_wp2
    go_ret
    exact ⟨_, rfl, .inr ⟨by omega, rfl⟩, Below.refl _ _⟩

set_option maxRecDepth 10000 in
set_option maxHeartbeats 400000 in
theorem toPassThrowS_pos (b off len cap : Nat) (zs : List Pt) (w : World) (hz : zs.length = len) (hbig : len ≤ 1048576) (hb : b < w.heap.size)
    (hc : ∀ i, i < len → TwoP w b (off + i * 2) (zs.getD i p0)) :
    Calls Try.prog 50 #[.slice (some ⟨b, off, none⟩) len cap] w fun e w' =>
      e = .returned (.slice (some ⟨w.heap.size, 0, none⟩) len len) ∧ Pas w' w.heap.size (.slice (some ⟨w.heap.size, 0, none⟩) len len) zs ∧ Below w.heap.size w w' := by
  obtain ⟨i0, hi, hz0, hz1, hz2⟩ := info_parts Try.infoPas
  go_enter Try.func50, Try.ntmps50
  go_wp2_with (at_make; refine wpList_make_full _ rfl _ _ 29 rfl w.heap.size 67 i0 (.agg #[.int .i64 0, .bool false]) 2 Try.underlying29 hi hz0 hz1 _ _ _ _ len rfl rfl rfl rfl (by rw [hz2]; omega) (by unfold maxLen; omega) (Nat.le_refl _) ?_)
  intro w1 hown hg
  have h1 : Pas w1 w.heap.size (.slice (some ⟨w.heap.size, 0, none⟩) len len) (zs.take 0 ++ List.replicate (len - 0) p0) := by
    have e := made_flat pasV_len p0 len (by decide)
    unfold Pas OwnK
    rw [List.take_zero, List.nil_append, Nat.sub_zero, List.length_replicate, ← e]
    exact hown
  have hb1 : Below w.heap.size w w1 := (Below.refl _ _).grown hg (Nat.le_refl _) (by simp)
  clear hown hg hi hz0 hz1 hz2
  go_wp2
  go_loopw [4] (fun i wr => ∃ k : Nat, k ≤ len ∧ i = .int .i64 k ∧ Pas wr w.heap.size (.slice (some ⟨w.heap.size, 0, none⟩) len len) (zs.take k ++ List.replicate (len - k) p0) ∧ Below w.heap.size w wr)
    (fun i _ => len - (intOf i).toNat)
  case atStart => exact ⟨0, Nat.zero_le _, rfl, h1, hb1⟩
  case round =>
    obtain ⟨k, hk, rfl, hr, hbr⟩ := hrel
    by_cases hlt : k < len
    · obtain ⟨c0, c1⟩ := (hc k hlt).below hbr hb
      have hkl : k < (zs.take k ++ List.replicate (len - k) p0).length := by simp; omega
      have HPUT := Lib.hid (fun W (hW : Below wr.heap.size wr W) => by
        have hn := (hr.below hW).put2 k hkl (zs.getD k p0)
        rw [take_set_pas zs len k hlt (by omega)] at hn
        exact hn)
      have HOLD := Lib.hid (fun W (hW : Below wr.heap.size wr W) => (hr.below hW).twoP k hkl)
      have HFR := Lib.hid (fun W (hW : Below wr.heap.size wr W) => (hr.below hW).free)
      have HC := fun W => toPassThrow_any (zs.getD k p0).1 (zs.getD k p0).2 W
      have HKL := Lib.hid hkl
      clear h1 hb1 hc hr hkl
      generalize zs.getD k p0 = y at *
      generalize (zs.take k ++ List.replicate (len - k) p0).getD k p0 = x at *
      obtain ⟨y0, y1⟩ := y
      simp only at c0 c1 HC
      go_wp2_with fail
      refine (HC _).mono ?_
      rintro e w2 ⟨rfl, b2⟩
      obtain ⟨d0, d1⟩ := HOLD.out w2 b2
      have f0 := HFR.out w2 b2 (k * 2)
      have f1 := HFR.out w2 b2 (k * 2 + 1)
      have HN := Lib.hid (HPUT.out w2 b2)
      have hbn := below_two (hbr.trans (b2.mono hbr.size)) (g := w.heap.size) (o := k * 2) (Nat.le_refl _) (.int .i64 y0) (.bool y1)
      clear HPUT HOLD HFR HC c0 c1 b2
      go_wp2
      go_roundw
      case rel => exact ⟨k + 1, by omega, by go_num, HN.out, hbn⟩
      case measure => simp [intOf]; omega
    · obtain rfl : k = len := by omega
      clear h1 hb1 hc
      go_wp2
      go_ret
      exact ⟨rfl, by simpa [← hz] using hr, hbr⟩

set_option maxRecDepth 10000 in
theorem toPassThrowS_zero (a : Option Addr) (cap : Nat) (w : World) :
    Calls Try.prog 50 #[.slice a 0 cap] w fun e w' =>
      e = .returned (.slice (some ⟨w.heap.size, 0, none⟩) 0 0) ∧ Pas w' w.heap.size (.slice (some ⟨w.heap.size, 0, none⟩) 0 0) [] ∧ Below w.heap.size w w' := by
  obtain ⟨i0, hi, hz0, hz1, hz2⟩ := info_parts Try.infoPas
  go_enter Try.func50, Try.ntmps50
  go_wp2_with (at_make; refine wpList_make_full _ rfl _ _ 29 rfl w.heap.size 67 i0 (.agg #[.int .i64 0, .bool false]) 2 Try.underlying29 hi hz0 hz1 _ _ _ _ 0 rfl rfl rfl rfl (by rw [hz2]; omega) (by unfold maxLen; omega) (Nat.le_refl _) ?_)
  intro w1 hown hg
  have h1 : Pas w1 w.heap.size (.slice (some ⟨w.heap.size, 0, none⟩) 0 0) [] := by
    unfold Pas OwnK
    simpa [madeCells] using hown
  have hb1 : Below w.heap.size w w1 := (Below.refl _ _).grown hg (Nat.le_refl _) (by simp)
  clear hown hg hi hz0 hz1 hz2
  go_wp2
  refine wp_loop_rounds 1 ?_
  rw [rounds_succ]
  go_wp2
  go_ret
  exact ⟨rfl, h1, hb1⟩

theorem toPassThrowS_any (a : Option Addr) (len cap : Nat) (zs : List Pt) (w : World) (h : IsPas w a len cap zs) (hbig : len ≤ 1048576) :
    Calls Try.prog 50 #[.slice a len cap] w fun e w' =>
      e = .returned (.slice (some ⟨w.heap.size, 0, none⟩) len len) ∧ Pas w' w.heap.size (.slice (some ⟨w.heap.size, 0, none⟩) len len) zs ∧ Below w.heap.size w w' := by
  have hn := h.num
  rcases h.twoP with rfl | ⟨b, off, rfl, hb, hc⟩
  · obtain rfl : zs = [] := List.length_eq_zero_iff.1 hn
    exact toPassThrowS_zero a cap w
  · exact toPassThrowS_pos b off len cap zs w hn hbig hb hc

/-! ### comparing -/
set_option maxRecDepth 10000 in
theorem eqPassThrow_same (v : Int) (c : Bool) (w : World) :
    Calls Try.prog 88 #[.agg #[.int .i64 v, .bool c], .agg #[.int .i64 v, .bool c]] w fun e w' => e = .returned (.bool true) ∧ Below w.heap.size w w' := by
  go_enter Try.func88, Try.ntmps88
  go_wp2
  go_ret
  exact ⟨rfl, ((Below.refl w.heap.size w).alloc (Nat.le_refl _) _).alloc (by simp) _⟩

set_option maxRecDepth 10000 in
set_option maxHeartbeats 400000 in
theorem eqPassThrowS_row (g g' cap cap' B B' : Nat) (xs : List Pt) (w : World) (h : Pas w B (.slice (some ⟨g, 0, none⟩) xs.length cap) xs) (h' : Pas w B' (.slice (some ⟨g', 0, none⟩) xs.length cap') xs) (hg : g < w.heap.size) (hg' : g' < w.heap.size) :
    Calls Try.prog 53 #[.slice (some ⟨g, 0, none⟩) xs.length cap, .slice (some ⟨g', 0, none⟩) xs.length cap'] w fun e w' => e = .returned (.bool true) ∧ Below w.heap.size w w' := by
  have hm := h.len
  obtain ⟨n, hn⟩ : ∃ n, n = xs.length := ⟨_, rfl⟩
  have hc : ∀ i, i < n → TwoP w g (i * 2) (xs.getD i p0) := fun i hi => h.twoP i (by omega)
  have hc' : ∀ i, i < n → TwoP w g' (i * 2) (xs.getD i p0) := fun i hi => h'.twoP i (by omega)
  rw [← hn] at hm ⊢
  clear h h'
  have HN := Lib.hid hn
  clear hn
  go_enter Try.func53, Try.ntmps53
  go_wp2
  go_loopw [5] (fun i wr => ∃ k : Nat, k ≤ n ∧ i = .int .i64 k ∧ Below w.heap.size w wr) (fun i _ => n - (intOf i).toNat)
  case atStart => exact ⟨0, Nat.zero_le _, rfl, Below.refl _ _⟩
  case round =>
    obtain ⟨k, hk, rfl, hb⟩ := hrel
    by_cases hlt : k < n
    · obtain ⟨c0, c1⟩ := (hc k hlt).below hb hg
      obtain ⟨d0, d1⟩ := (hc' k hlt).below hb hg'
      have HE := Lib.hid (fun W (hW : Below wr.heap.size wr W) => show Calls Try.prog 88 #[.agg #[.int .i64 (xs.getD k p0).1, .bool (xs.getD k p0).2], .agg #[.int .i64 (xs.getD k p0).1, .bool (xs.getD k p0).2]] W fun e w' => e = .returned (.bool true) ∧ Below wr.heap.size wr w' from
        (eqPassThrow_same _ _ W).mono fun e w' ⟨h1, h2⟩ => ⟨h1, hW.trans (h2.mono hW.size)⟩)
      clear hc hc'
      generalize xs.getD k p0 = y at *
      obtain ⟨y0, y1⟩ := y
      simp only at c0 c1 d0 d1 HE
      go_wp2
      go_region_law (first | (go_simp; go_at_call 88; (with_reducible refine (HE.out _ ?_).mono ?_); (repeat (first | exact Below.refl _ _ | refine Below.drew ?_ | refine below_drewN ?_ _)); rintro e w2 ⟨rfl, b2⟩))
      all_goals go_wp2
      all_goals exact ⟨⟨k + 1, by omega, by go_num, hb.trans (b2.mono hb.size)⟩, by simp [intOf]; omega⟩
    · obtain rfl : k = n := by omega
      clear hc hc'
      go_wp2
      go_ret
      exact ⟨rfl, hb⟩

set_option maxRecDepth 10000 in
theorem eqPassThrowS_zero (a a' : Option Addr) (cap cap' : Nat) (w : World) :
    Calls Try.prog 53 #[.slice a 0 cap, .slice a' 0 cap'] w fun e w' => e = .returned (.bool true) ∧ Below w.heap.size w w' := by
  go_enter Try.func53, Try.ntmps53
  go_wp2
  refine wp_loop_rounds 1 ?_
  rw [rounds_succ]
  go_wp2
  go_ret
  exact ⟨rfl, Below.refl _ _⟩

theorem eqPassThrowS_any (v u : Value) (B B' : Nat) (xs : List Pt) (w : World) (h : Pas w B v xs) (h' : Pas w B' u xs) :
    Calls Try.prog 53 #[v, u] w fun e w' => e = .returned (.bool true) ∧ Below w.heap.size w w' := by
  rcases h.shape with ⟨rfl, rfl⟩ | ⟨g, cap, rfl, _, hg, _, _⟩
  · rcases h'.shape with ⟨rfl, _⟩ | ⟨g', cap', rfl, _, _, _, _⟩
    · exact eqPassThrowS_zero _ _ _ _ _
    · exact eqPassThrowS_zero _ _ _ _ _
  · rcases h'.shape with ⟨rfl, rfl⟩ | ⟨g', cap', rfl, _, hg', _, _⟩
    · exact eqPassThrowS_zero _ _ _ _ _
    · exact eqPassThrowS_row _ _ _ _ _ _ _ _ h h' hg hg'

/-! ### marks -/
def mkP (k : Int) : Pt := (k, (k + 1) % 3 == 0)
def upsP (k : Int) (n : Nat) : List Pt := (List.range n).map fun i : Nat => mkP (k + 2 * (i : Int))
theorem upsP_len (k : Int) (n : Nat) : (upsP k n).length = n := by simp [upsP]
theorem upsP_get (k : Int) (n j : Nat) (h : j < n) : (upsP k n).getD j p0 = mkP (k + 2 * (j : Int)) := by simp [upsP, h]
theorem upsP_set (k : Int) (xs : List Pt) (j : Nat) (h : j < xs.length) : (upsP k j ++ xs.drop j).set j (mkP (k + 2 * (j : Int))) = upsP k (j + 1) ++ xs.drop (j + 1) := by
  have e1 : upsP k (j + 1) = upsP k j ++ [mkP (k + 2 * (j : Int))] := by simp [upsP, List.range_succ]
  rw [List.set_append_right _ _ (by rw [upsP_len]; exact Nat.le_refl _), upsP_len, Nat.sub_self, e1, List.append_assoc]
  congr 1
  rw [List.drop_eq_getElem_cons h]
  rfl
theorem grown_two {w wr : World} {g o : Nat} (h : w.grownBy wr (some g)) (a b : Value) : w.grownBy ((wr.setCell ⟨g, o, none⟩ a).setCell ⟨g, o + 1, none⟩ b) (some g) := by
  have one : ∀ (wr : World) (o : Nat) (a : Value), w.grownBy wr (some g) → w.grownBy (wr.setCell ⟨g, o, none⟩ a) (some g) := fun wr o a h =>
    ⟨h.os, h.tape, h.output, by simpa using h.size, fun k hk hne => by rw [Below.heap_setCell _ _ _ _ (by simpa using fun e => hne (by rw [e]))]; exact h.block k hk hne⟩
  exact one _ _ _ (one _ _ _ h)

set_option maxRecDepth 10000 in
set_option maxHeartbeats 400000 in
theorem markPassThrowS_row (g cap B : Nat) (xs : List Pt) (k0 : Int) (w : World) (h : Pas w B (.slice (some ⟨g, 0, none⟩) xs.length cap) xs) (hk0 : 0 ≤ k0) (hk1 : k0 + 2 * xs.length ≤ 1000000000000) :
    Calls Try.prog 54 #[.slice (some ⟨g, 0, none⟩) xs.length cap, .int .i64 k0] w fun e w' =>
      e = .returned (.int .i64 (k0 + 2 * xs.length)) ∧ Pas w' B (.slice (some ⟨g, 0, none⟩) xs.length cap) (upsP k0 xs.length) ∧ w.grownBy w' (some g) := by
  have hm := h.len
  obtain ⟨n, hn⟩ : ∃ n, n = xs.length := ⟨_, rfl⟩
  have hs : Pas w B (.slice (some ⟨g, 0, none⟩) xs.length cap) (upsP k0 0 ++ xs.drop 0) := by simpa [upsP] using h
  rw [← hn] at hm hk1 hs ⊢
  clear h
  have HN := Lib.hid hn
  clear hn
  go_enter Try.func54, Try.ntmps54
  go_wp2
  go_loopw [1, 5] (fun c i wr => ∃ (k : Nat) (c0 : Int), k ≤ n ∧ i = .int .i64 k ∧ c = .int .i64 c0 ∧ Hid (c0 = k0 + 2 * k) ∧ Pas wr B (.slice (some ⟨g, 0, none⟩) n cap) (upsP k0 k ++ xs.drop k) ∧ w.grownBy wr (some g))
    (fun _ i _ => n - (intOf i).toNat)
  case atStart => exact ⟨0, k0, Nat.zero_le _, rfl, rfl, by unfold Hid; simp, hs, World.grownBy.refl _ _⟩
  case round =>
    obtain ⟨k, c, hk, rfl, rfl, hcc, hr, hg⟩ := hrel
    by_cases hlt : k < n
    · have hn := HN.out
      have hlen : k < (upsP k0 k ++ xs.drop k).length := by simp [upsP_len]; omega
      obtain ⟨d0, d1⟩ := hr.twoP k hlen
      have f0 := hr.free (k * 2)
      have f1 := hr.free (k * 2 + 1)
      have hN := hr.put2 k hlen (mkP c)
      have hc := hcc.out
      have hc0 : 0 ≤ c := by omega
      have hc1 : c ≤ 1000000000000 := by omega
      have e := upsP_set k0 xs k (by omega)
      rw [← hc] at e
      rw [e] at hN
      have hgN := grown_two (o := k * 2) hg (.int .i64 c) (.bool ((c + 1) % 3 == 0))
      have HNN := Lib.hid hN
      have HGN := Lib.hid hgN
      have HC2 : Hid (c + 2 = k0 + 2 * ((k + 1 : Nat) : Int)) := by unfold Hid; omega
      clear hs hn hlen hN hgN hr hg e hc
      go_wp2
      rw [show c + 1 + 1 = c + 2 by omega]
      exact ⟨⟨k + 1, c + 2, by omega, by go_num, rfl, HC2, HNN.out, HGN.out⟩, by simp [intOf]; omega⟩
    · obtain rfl : k = n := by omega
      have hn := HN.out
      have hd : xs.drop k = [] := by simp; omega
      rw [hd, List.append_nil] at hr
      have hc := hcc.out
      subst hc
      clear hs hn hd
      go_wp2
      go_ret
      exact ⟨rfl, hr, hg⟩

set_option maxRecDepth 10000 in
theorem markPassThrowS_zero (a : Option Addr) (cap : Nat) (k0 : Int) (w : World) :
    Calls Try.prog 54 #[.slice a 0 cap, .int .i64 k0] w fun e w' => e = .returned (.int .i64 k0) ∧ w = w' := by
  go_enter Try.func54, Try.ntmps54
  go_wp2
  refine wp_loop_rounds 1 ?_
  rw [rounds_succ]
  go_wp2
  go_ret
  exact ⟨rfl, rfl⟩

theorem markPassThrowS_any (v : Value) (B : Nat) (xs : List Pt) (k0 : Int) (w : World) (h : Pas w B v xs) (hk0 : 0 ≤ k0) (hk1 : k0 + 2 * xs.length ≤ 1000000000000) :
    Calls Try.prog 54 #[v, .int .i64 k0] w fun e w' =>
      e = .returned (.int .i64 (k0 + 2 * xs.length)) ∧ Pas w' B v (upsP k0 xs.length) ∧ w.grownBy w' v.ownBlock := by
  rcases h.shape with ⟨rfl, rfl⟩ | ⟨g, cap, rfl, _, _, _⟩
  · refine (markPassThrowS_zero _ _ _ _).mono ?_
    rintro e w' ⟨rfl, rfl⟩
    exact ⟨by simp, OwnK.nil _ _ _ _ _, World.grownBy.refl _ _⟩
  · exact markPassThrowS_row _ _ _ _ _ _ h hk0 hk1

set_option maxRecDepth 10000 in
set_option maxHeartbeats 400000 in
theorem heldPassThrowS_row (g cap B n : Nat) (k0 : Int) (w : World) (h : Pas w B (.slice (some ⟨g, 0, none⟩) n cap) (upsP k0 n)) (hg : g < w.heap.size) (hk0 : 0 ≤ k0) (hk1 : k0 + 2 * n ≤ 1000000000000) :
    Calls Try.prog 61 #[.slice (some ⟨g, 0, none⟩) n cap, .int .i64 k0] w fun e w' => e = .returned (.int .i64 (k0 + 2 * n)) ∧ Below w.heap.size w w' := by
  have hc : ∀ i, i < n → TwoP w g (i * 2) (mkP (k0 + 2 * (i : Int))) := fun i hi => by
    have := h.twoP i (by rw [upsP_len]; exact hi)
    rwa [upsP_get k0 n i hi] at this
  clear h
  go_enter Try.func61, Try.ntmps61
  go_wp2
  go_loopw [1, 5] (fun c i wr => ∃ (k : Nat) (c0 : Int), k ≤ n ∧ i = .int .i64 k ∧ c = .int .i64 c0 ∧ Hid (c0 = k0 + 2 * k) ∧ Below w.heap.size w wr)
    (fun _ i _ => n - (intOf i).toNat)
  case atStart => exact ⟨0, k0, Nat.zero_le _, rfl, rfl, by unfold Hid; simp, Below.refl _ _⟩
  case round =>
    obtain ⟨k, c, hk, rfl, rfl, hcc, hb⟩ := hrel
    by_cases hlt : k < n
    · have hh := hc k hlt
      rw [← hcc.out] at hh
      obtain ⟨d0, d1⟩ := hh.below hb hg
      have e := hcc.out
      have hc0 : 0 ≤ c := by omega
      have hc1 : c ≤ 1000000000000 := by omega
      have HC2 : Hid (c + 2 = k0 + 2 * ((k + 1 : Nat) : Int)) := by unfold Hid; omega
      simp only [mkP] at d0 d1
      clear hc hh e
      go_wp2
      rw [show c + 1 + 1 = c + 2 by omega]
      exact ⟨⟨k + 1, c + 2, by omega, by go_num, rfl, HC2, hb⟩, by simp [intOf]; omega⟩
    · obtain rfl : k = n := by omega
      have e := hcc.out
      subst e
      clear hc
      go_wp2
      go_ret
      exact ⟨rfl, hb⟩

set_option maxRecDepth 10000 in
theorem heldPassThrowS_zero (a : Option Addr) (cap : Nat) (k0 : Int) (w : World) :
    Calls Try.prog 61 #[.slice a 0 cap, .int .i64 k0] w fun e w' => e = .returned (.int .i64 k0) ∧ Below w.heap.size w w' := by
  go_enter Try.func61, Try.ntmps61
  go_wp2
  refine wp_loop_rounds 1 ?_
  rw [rounds_succ]
  go_wp2
  go_ret
  exact ⟨rfl, Below.refl _ _⟩

theorem heldPassThrowS_any (v : Value) (B n : Nat) (k0 : Int) (w : World) (h : Pas w B v (upsP k0 n)) (hk0 : 0 ≤ k0) (hk1 : k0 + 2 * n ≤ 1000000000000) :
    Calls Try.prog 61 #[v, .int .i64 k0] w fun e w' => e = .returned (.int .i64 (k0 + 2 * n)) ∧ Below w.heap.size w w' := by
  rcases h.shape with ⟨rfl, h0⟩ | ⟨g, cap, rfl, _, hg, _, _⟩
  · obtain rfl : n = 0 := by simpa [upsP_len] using congrArg List.length h0
    refine (heldPassThrowS_zero _ _ _ _).mono ?_
    rintro e w' ⟨rfl, hb⟩
    exact ⟨by simp, hb⟩
  · rw [upsP_len] at h ⊢
    exact heldPassThrowS_row _ _ _ _ _ _ h hg hk0 hk1
end Go.Proofs.Ytjhhldfhfebboaa
