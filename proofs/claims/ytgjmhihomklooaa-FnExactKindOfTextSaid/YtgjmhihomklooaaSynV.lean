/- The laws' own helpers on slices of synchronous beats: toSyncBeatS, eqSyncBeatS, markSyncBeatS, heldSyncBeatS, szSyncBeatS. Conditions: bounds on lengths. -/
import Derived.Test.YtgjmhihomklooaaOwnK
import Derived.Test.YtgjmhihomklooaaSyn
import Derived.Test.YtgjmhihomklooaaInts
import Derived.Deep.RegionHeldLaw
import Derived.Deep.RegionLawGrows
namespace Go.Proofs.Ytgjmhihomklooaa
open Go.RowKit
set_option linter.unusedSimpArgs false
set_option linter.unusedVariables false

/-- a throw's cells, a beat's cells -/
def thrV (t : Thr) : List Value := [.int .i64 t.1, .bool t.2]
def synV (s : Syn) : List Value := [.int .i64 s.1.1, .bool s.1.2, .int .i64 s.2.1, .bool s.2.2]
theorem synV_len (s : Syn) : (synV s).length = 4 := rfl
theorem thrV_len (t : Thr) : (thrV t).length = 2 := rfl

set_option maxRecDepth 10000 in
theorem toSyncThrow_any (v : Int) (c : Bool) (w : World) :
    Calls Try.prog 138 #[.agg #[.int .i64 v, .bool c]] w fun e w' => e = .returned (.agg #[.int .i64 v, .bool c]) ∧ Below w.heap.size w w' := by
  go_enter Try.func138, Try.ntmps138
  go_wp2
  refine bodyPost_ret (v := .agg #[.int .i64 v, .bool c]) (by simp [results, Try.results138, go_sem]) rfl ?_
  exact ⟨rfl, (((Below.refl w.heap.size w).alloc (Nat.le_refl _) _).alloc (by simp) _).alloc (by simp; omega) _⟩

theorem three_blks (w w1 : World) (a b c : Array Value) (S T U : TypeId) (h : Below (((w.alloc (.cells a S)).alloc (.cells b T)).alloc (.cells c U)).heap.size (((w.alloc (.cells a S)).alloc (.cells b T)).alloc (.cells c U)) w1) :
    Blk w1 w.heap.size a.toList S ∧ Blk w1 (w.heap.size + 1) b.toList T ∧ Blk w1 (w.heap.size + 1 + 1) c.toList U ∧ Below w.heap.size w w1 := by
  have h1 := (((Blk.made w a S).alloc (.cells b T)).alloc (.cells c U)).below h (by simp; omega)
  have h2 := ((Blk.made (w.alloc (.cells a S)) b T).alloc (.cells c U)).below h (by simp)
  have h3 := (Blk.made ((w.alloc (.cells a S)).alloc (.cells b T)) c U).below h (by simp)
  exact ⟨h1, by simpa using h2, by simpa using h3, ((((Below.refl w.heap.size w).alloc (Nat.le_refl _) _).alloc (by simp) _).alloc (by simp; omega) _).trans (h.mono (by simp; omega))⟩

set_option maxRecDepth 10000 in
theorem toSyncBeat_any (v : Int) (c : Bool) (u : Int) (d : Bool) (w : World) :
    Calls Try.prog 95 #[.agg #[.int .i64 v, .bool c, .int .i64 u, .bool d]] w fun e w' => e = .returned (.agg #[.int .i64 v, .bool c, .int .i64 u, .bool d]) ∧ Below w.heap.size w w' := by
  go_enter Try.func95, Try.ntmps95
  go_wp2_with fail
  refine (toSyncThrow_any _ _ _).mono ?_
  rintro e w1 ⟨rfl, b1⟩
  obtain ⟨p1, q1, r1, b1⟩ := three_blks w w1 _ _ _ _ _ _ b1
  have c2 := p1.cell 2
  have c3 := p1.cell 3
  have o0 := r1.cell 0
  have o1 := r1.cell 1
  have f0 := r1.free 0
  have f1 := r1.free 1
  have p2 := (p1.other (p := ⟨w.heap.size + 1 + 1, 0, none⟩) (by simp; omega) (.int .i64 v)).other (p := ⟨w.heap.size + 1 + 1, 1, none⟩) (by simp; omega) (.bool c)
  have q2 := (q1.other (p := ⟨w.heap.size + 1 + 1, 0, none⟩) (by simp) (.int .i64 v)).other (p := ⟨w.heap.size + 1 + 1, 1, none⟩) (by simp) (.bool c)
  have r2 := (r1.set 0 (.int .i64 v)).set 1 (.bool c)
  have b2 := (b1.setCell (p := ⟨w.heap.size + 1 + 1, 0, none⟩) (by simp; omega) (.int .i64 v)).setCell (p := ⟨w.heap.size + 1 + 1, 1, none⟩) (by simp; omega) (.bool c)
  clear p1 q1 r1 b1
  simp at c2 c3 o0 o1
  go_wp2_with fail
  refine (toSyncThrow_any _ _ _).mono ?_
  rintro e w2 ⟨rfl, b3⟩
  generalize (w1.setCell ⟨w.heap.size + 1 + 1, 0, none⟩ (.int .i64 v)).setCell ⟨w.heap.size + 1 + 1, 1, none⟩ (.bool c) = W at *
  have q3 := q2.below b3 q2.lt
  have r3 := r2.below b3 r2.lt
  have b4 := b2.trans (b3.mono b2.size)
  clear p2 q2 r2 b2 b3 c2 c3 o0 o1 f0 f1
  have o0 := r3.cell 0
  have o1 := r3.cell 1
  have o2 := r3.cell 2
  have o3 := r3.cell 3
  have f2 := r3.free 2
  have f3 := r3.free 3
  have g0 := q3.cell 0
  have g1 := q3.cell 1
  have g2 := q3.cell 2
  have g3 := q3.cell 3
  have k0 := q3.free 0
  have k1 := q3.free 1
  have k2 := q3.free 2
  have k3 := q3.free 3
  simp at o0 o1 o2 o3 g0 g1 g2 g3
  have q4 := (((((q3.other (p := ⟨w.heap.size + 1 + 1, 2, none⟩) (by simp) (.int .i64 u)).other (p := ⟨w.heap.size + 1 + 1, 3, none⟩) (by simp) (.bool d)).set 0 (.int .i64 v)).set 1 (.bool c)).set 2 (.int .i64 u)).set 3 (.bool d)
  have h0 := q4.cell 0
  have h1 := q4.cell 1
  have h2 := q4.cell 2
  have h3 := q4.cell 3
  simp only [List.set_cons_zero, List.set_cons_succ, List.getElem?_cons_zero, List.getElem?_cons_succ] at h0 h1 h2 h3
  go_wp2
  refine bodyPost_ret (v := .agg #[.int .i64 v, .bool c, .int .i64 u, .bool d]) (by simp [results, Try.results95, go_sem, h0, h1, h2, h3]) rfl ?_
  exact ⟨rfl, (((((b4.setCell (p := ⟨w.heap.size + 1 + 1, 2, none⟩) (by simp; omega) _).setCell (p := ⟨w.heap.size + 1 + 1, 3, none⟩) (by simp; omega) _).setCell (p := ⟨w.heap.size + 1, 0, none⟩) (by simp) _).setCell (p := ⟨w.heap.size + 1, 1, none⟩) (by simp) _).setCell (p := ⟨w.heap.size + 1, 2, none⟩) (by simp) _).setCell (p := ⟨w.heap.size + 1, 3, none⟩) (by simp) _⟩

/-! ### slices -/
abbrev Syns (w : World) (B : Nat) (v : Value) (xs : List Syn) : Prop := OwnK 115 4 synV w B v xs
def fitS (s : Syn) : Prop := (-9223372036854775808 ≤ s.1.1 ∧ s.1.1 ≤ 9223372036854775807) ∧ (-9223372036854775808 ≤ s.2.1 ∧ s.2.1 ≤ 9223372036854775807)
abbrev IsSyncs (w : World) (a : Option Addr) (len cap : Nat) (zs : List Syn) : Prop := IsK 4 synV fitS w a len cap zs
theorem Try.infoSyn : (Try.prog.info? 115).map (fun i => (i.zero, i.size, i.bytes)) = some (some (.agg #[.int .i64 0, .bool false, .int .i64 0, .bool false]), 4, 32) := by kernel_rfl

/-- the four cells of an element, as a walk asks for them -/
def Four (w : World) (b o : Nat) (s : Syn) : Prop := w.cell? ⟨b, o, none⟩ = some (.int .i64 s.1.1) ∧ w.cell? ⟨b, o + 1, none⟩ = some (.bool s.1.2) ∧ w.cell? ⟨b, o + 2, none⟩ = some (.int .i64 s.2.1) ∧ w.cell? ⟨b, o + 3, none⟩ = some (.bool s.2.2)
theorem Four.below {w w' : World} {N b o : Nat} {s : Syn} (h : Four w b o s) (hb : Below N w w') (hN : b < N) : Four w' b o s :=
  ⟨(hb.cell (p := ⟨b, o, none⟩) hN).trans h.1, (hb.cell (p := ⟨b, o + 1, none⟩) hN).trans h.2.1, (hb.cell (p := ⟨b, o + 2, none⟩) hN).trans h.2.2.1, (hb.cell (p := ⟨b, o + 3, none⟩) hN).trans h.2.2.2⟩
theorem IsK.four {w : World} {a : Option Addr} {len cap : Nat} {zs : List Syn} (h : IsSyncs w a len cap zs) : len = 0 ∨ ∃ b off, a = some ⟨b, off, none⟩ ∧ b < w.heap.size ∧ ∀ i, i < len → Four w b (off + i * 4) (zs.getD i s0) := by
  rcases h.parts synV_len (by decide) s0 with h | ⟨b, off, ha, hb, hc⟩
  · exact .inl h
  · refine .inr ⟨b, off, ha, hb, fun i hi => ⟨?_, ?_, ?_, ?_⟩⟩
    · exact hc i 0 hi (by decide)
    · exact hc i 1 hi (by decide)
    · exact hc i 2 hi (by decide)
    · exact hc i 3 hi (by decide)
theorem OwnK.four {w : World} {e : TypeId} {B g n cap : Nat} {xs : List Syn} (h : OwnK e 4 synV w B (.slice (some ⟨g, 0, none⟩) n cap) xs) (i : Nat) (hi : i < xs.length) : Four w g (i * 4) (xs.getD i s0) :=
  ⟨h.cell synV_len s0 i 0 hi (by decide), h.cell synV_len s0 i 1 hi (by decide), h.cell synV_len s0 i 2 hi (by decide), h.cell synV_len s0 i 3 hi (by decide)⟩
/-- an element is written -/
theorem OwnK.put4 {w : World} {e : TypeId} {B g n cap : Nat} {xs : List Syn} (h : OwnK e 4 synV w B (.slice (some ⟨g, 0, none⟩) n cap) xs) (i : Nat) (hi : i < xs.length) (y : Syn) :
    OwnK e 4 synV ((((w.setCell ⟨g, i * 4, none⟩ (.int .i64 y.1.1)).setCell ⟨g, i * 4 + 1, none⟩ (.bool y.1.2)).setCell ⟨g, i * 4 + 2, none⟩ (.int .i64 y.2.1)).setCell ⟨g, i * 4 + 3, none⟩ (.bool y.2.2)) B (.slice (some ⟨g, 0, none⟩) n cap) (xs.set i y) := by
  have h1 := h.put synV_len s0 i 0 (.int .i64 y.1.1) ((y.1.1, (xs.getD i s0).1.2), (xs.getD i s0).2) hi (by decide) rfl
  have h2 := h1.put synV_len s0 i 1 (.bool y.1.2) (y.1, (xs.getD i s0).2) (by simpa using hi) (by decide) (by simp [hi, synV])
  have h3 := h2.put synV_len s0 i 2 (.int .i64 y.2.1) (y.1, (y.2.1, (xs.getD i s0).2.2)) (by simpa using hi) (by decide) (by simp [hi, synV])
  have h4 := h3.put synV_len s0 i 3 (.bool y.2.2) y (by simpa using hi) (by decide) (by simp [hi, synV])
  simpa [List.set_set] using h4
theorem below_four {w w' : World} {N g o : Nat} (h : Below N w w') (hg : N ≤ g) (a b c d : Value) : Below N w ((((w'.setCell ⟨g, o, none⟩ a).setCell ⟨g, o + 1, none⟩ b).setCell ⟨g, o + 2, none⟩ c).setCell ⟨g, o + 3, none⟩ d) :=
  (((h.setCell (p := ⟨g, o, none⟩) hg a).setCell (p := ⟨g, o + 1, none⟩) hg b).setCell (p := ⟨g, o + 2, none⟩) hg c).setCell (p := ⟨g, o + 3, none⟩) hg d
theorem take_set_syn (zs : List Syn) (n k : Nat) (hk : k < n) (hn : n ≤ zs.length) :
    (zs.take k ++ List.replicate (n - k) s0).set k (zs.getD k s0) = zs.take (k + 1) ++ List.replicate (n - (k + 1)) s0 := by
  have e1 : zs.take (k + 1) = zs.take k ++ [zs.getD k s0] := by
    rw [List.take_succ_eq_append_getElem (by omega)]
    simp [show k < zs.length by omega]
  have hl : (zs.take k).length = k := by simp; omega
  rw [List.set_append_right _ _ (by omega), hl, Nat.sub_self, e1, List.append_assoc]
  congr 1
  rw [show n - k = (n - (k + 1)) + 1 by omega, List.replicate_succ]
  rfl

set_option maxRecDepth 10000 in
theorem szSyncBeatS_any (a : Option Addr) (len cap : Nat) (z : List Syn) (left : Int) (w : World) (h : IsSyncs w a len cap z) (h0 : 0 ≤ left) (h1 : left ≤ 1048576) :
    Calls Try.prog 46 #[.slice a len cap, .int .i64 left] w fun e w' => ∃ r, e = .returned (.int .i64 r) ∧ (r = -1 ∨ (0 ≤ r ∧ r = left - len)) ∧ Below w.heap.size w w' := by
  have hm := h.max
  clear h
  by_cases hl : left - (len : Int) < 0
  · go_enter Try.func46, Try.ntmps46
    go_wp2
    go_ret
    exact ⟨_, rfl, .inl rfl, Below.refl _ _⟩
  · go_enter Try.func46, Try.ntmps46
    go_wp2
    go_ret
    exact ⟨_, rfl, .inr ⟨by omega, rfl⟩, Below.refl _ _⟩

set_option maxRecDepth 10000 in
set_option maxHeartbeats 400000 in
theorem toSyncBeatS_pos (b off len cap : Nat) (zs : List Syn) (w : World) (hz : zs.length = len) (hbig : len ≤ 1048576) (hb : b < w.heap.size)
    (hc : ∀ i, i < len → Four w b (off + i * 4) (zs.getD i s0)) :
    Calls Try.prog 47 #[.slice (some ⟨b, off, none⟩) len cap] w fun e w' =>
      e = .returned (.slice (some ⟨w.heap.size, 0, none⟩) len len) ∧ Syns w' w.heap.size (.slice (some ⟨w.heap.size, 0, none⟩) len len) zs ∧ Below w.heap.size w w' := by
  obtain ⟨i0, hi, hz0, hz1, hz2⟩ := info_parts Try.infoSyn
  go_enter Try.func47, Try.ntmps47
  go_wp2_with (at_make; refine wpList_make_full _ rfl _ _ 44 rfl w.heap.size 115 i0 (.agg #[.int .i64 0, .bool false, .int .i64 0, .bool false]) 4 Try.underlying44 hi hz0 hz1 _ _ _ _ len rfl rfl rfl rfl (by rw [hz2]; omega) (by unfold maxLen; omega) (Nat.le_refl _) ?_)
  intro w1 hown hg
  have h1 : Syns w1 w.heap.size (.slice (some ⟨w.heap.size, 0, none⟩) len len) (zs.take 0 ++ List.replicate (len - 0) s0) := by
    have e := made_flat synV_len s0 len (by decide)
    unfold Syns OwnK
    rw [List.take_zero, List.nil_append, Nat.sub_zero, List.length_replicate, ← e]
    exact hown
  have hb1 : Below w.heap.size w w1 := (Below.refl _ _).grown hg (Nat.le_refl _) (by simp)
  clear hown hg hi hz0 hz1 hz2
  go_wp2
  go_loopw [4] (fun i wr => ∃ k : Nat, k ≤ len ∧ i = .int .i64 k ∧ Syns wr w.heap.size (.slice (some ⟨w.heap.size, 0, none⟩) len len) (zs.take k ++ List.replicate (len - k) s0) ∧ Below w.heap.size w wr)
    (fun i _ => len - (intOf i).toNat)
  case atStart => exact ⟨0, Nat.zero_le _, rfl, h1, hb1⟩
  case round =>
    obtain ⟨k, hk, rfl, hr, hbr⟩ := hrel
    by_cases hlt : k < len
    · obtain ⟨c0, c1, c2, c3⟩ := (hc k hlt).below hbr hb
      have hkl : k < (zs.take k ++ List.replicate (len - k) s0).length := by simp; omega
      have HPUT := Lib.hid (fun W (hW : Below wr.heap.size wr W) => by
        have hn := (hr.below hW).put4 k hkl (zs.getD k s0)
        rw [take_set_syn zs len k hlt (by omega)] at hn
        exact hn)
      have HOLD := Lib.hid (fun W (hW : Below wr.heap.size wr W) => (hr.below hW).four k hkl)
      have HFR := Lib.hid (fun W (hW : Below wr.heap.size wr W) => (hr.below hW).free)
      have HC := fun W => toSyncBeat_any (zs.getD k s0).1.1 (zs.getD k s0).1.2 (zs.getD k s0).2.1 (zs.getD k s0).2.2 W
      have HKL := Lib.hid hkl
      clear h1 hb1 hc hr hkl
      generalize zs.getD k s0 = y at *
      generalize (zs.take k ++ List.replicate (len - k) s0).getD k s0 = x at *
      obtain ⟨⟨y0, y1⟩, y2, y3⟩ := y
      simp only at c0 c1 c2 c3 HC
      go_wp2_with fail
      refine (HC _).mono ?_
      rintro e w2 ⟨rfl, b2⟩
      obtain ⟨d0, d1, d2, d3⟩ := HOLD.out w2 b2
      have f0 := HFR.out w2 b2 (k * 4)
      have f1 := HFR.out w2 b2 (k * 4 + 1)
      have f2 := HFR.out w2 b2 (k * 4 + 2)
      have f3 := HFR.out w2 b2 (k * 4 + 3)
      have HN := Lib.hid (HPUT.out w2 b2)
      have hbn := below_four (hbr.trans (b2.mono hbr.size)) (g := w.heap.size) (o := k * 4) (Nat.le_refl _) (.int .i64 y0) (.bool y1) (.int .i64 y2) (.bool y3)
      clear HPUT HOLD HFR HC c0 c1 c2 c3 b2
      go_wp2
      go_roundw
      case rel => exact ⟨k + 1, by omega, by go_num, HN.out, hbn⟩
      case measure => simp [intOf]; omega
    · obtain rfl : k = len := by omega
      clear h1 hb1 hc
      go_wp2
      go_ret
      exact ⟨rfl, by simpa [← hz] using hr, hbr⟩

set_option maxRecDepth 10000 in
theorem toSyncBeatS_zero (a : Option Addr) (cap : Nat) (w : World) :
    Calls Try.prog 47 #[.slice a 0 cap] w fun e w' =>
      e = .returned (.slice (some ⟨w.heap.size, 0, none⟩) 0 0) ∧ Syns w' w.heap.size (.slice (some ⟨w.heap.size, 0, none⟩) 0 0) [] ∧ Below w.heap.size w w' := by
  obtain ⟨i0, hi, hz0, hz1, hz2⟩ := info_parts Try.infoSyn
  go_enter Try.func47, Try.ntmps47
  go_wp2_with (at_make; refine wpList_make_full _ rfl _ _ 44 rfl w.heap.size 115 i0 (.agg #[.int .i64 0, .bool false, .int .i64 0, .bool false]) 4 Try.underlying44 hi hz0 hz1 _ _ _ _ 0 rfl rfl rfl rfl (by rw [hz2]; omega) (by unfold maxLen; omega) (Nat.le_refl _) ?_)
  intro w1 hown hg
  have h1 : Syns w1 w.heap.size (.slice (some ⟨w.heap.size, 0, none⟩) 0 0) [] := by
    unfold Syns OwnK
    simpa [madeCells] using hown
  have hb1 : Below w.heap.size w w1 := (Below.refl _ _).grown hg (Nat.le_refl _) (by simp)
  clear hown hg hi hz0 hz1 hz2
  go_wp2
  refine wp_loop_rounds 1 ?_
  rw [rounds_succ]
  go_wp2
  go_ret
  exact ⟨rfl, h1, hb1⟩

theorem toSyncBeatS_any (a : Option Addr) (len cap : Nat) (zs : List Syn) (w : World) (h : IsSyncs w a len cap zs) (hbig : len ≤ 1048576) :
    Calls Try.prog 47 #[.slice a len cap] w fun e w' =>
      e = .returned (.slice (some ⟨w.heap.size, 0, none⟩) len len) ∧ Syns w' w.heap.size (.slice (some ⟨w.heap.size, 0, none⟩) len len) zs ∧ Below w.heap.size w w' := by
  have hn := h.num
  rcases h.four with rfl | ⟨b, off, rfl, hb, hc⟩
  · obtain rfl : zs = [] := List.length_eq_zero_iff.1 hn
    exact toSyncBeatS_zero a cap w
  · exact toSyncBeatS_pos b off len cap zs w hn hbig hb hc

/-! ### comparing -/
set_option maxRecDepth 10000 in
theorem eqSyncThrow_same (v : Int) (c : Bool) (w : World) :
    Calls Try.prog 139 #[.agg #[.int .i64 v, .bool c], .agg #[.int .i64 v, .bool c]] w fun e w' => e = .returned (.bool true) ∧ Below w.heap.size w w' := by
  go_enter Try.func139, Try.ntmps139
  go_wp2
  go_ret
  exact ⟨rfl, ((Below.refl w.heap.size w).alloc (Nat.le_refl _) _).alloc (by simp) _⟩
theorem two_blks (w w1 : World) (a b : Array Value) (S T : TypeId) (h : Below ((w.alloc (.cells a S)).alloc (.cells b T)).heap.size ((w.alloc (.cells a S)).alloc (.cells b T)) w1) :
    Blk w1 w.heap.size a.toList S ∧ Blk w1 (w.heap.size + 1) b.toList T ∧ Below w.heap.size w w1 := by
  have h1 := ((Blk.made w a S).alloc (.cells b T)).below h (by simp; omega)
  have h2 := (Blk.made (w.alloc (.cells a S)) b T).below h (by simp)
  exact ⟨h1, by simpa using h2, (((Below.refl w.heap.size w).alloc (Nat.le_refl _) _).alloc (by simp) _).trans (h.mono (by simp; omega))⟩
set_option maxRecDepth 10000 in
theorem eqSyncBeat_same (v : Int) (c : Bool) (u : Int) (d : Bool) (w : World) :
    Calls Try.prog 96 #[.agg #[.int .i64 v, .bool c, .int .i64 u, .bool d], .agg #[.int .i64 v, .bool c, .int .i64 u, .bool d]] w fun e w' => e = .returned (.bool true) ∧ Below w.heap.size w w' := by
  go_enter Try.func96, Try.ntmps96
  go_wp2_with fail
  refine (eqSyncThrow_same _ _ _).mono ?_
  rintro e w1 ⟨rfl, b1⟩
  obtain ⟨p1, q1, b1⟩ := two_blks w w1 _ _ _ _ b1
  have c2 := p1.cell 2
  have c3 := p1.cell 3
  have d2 := q1.cell 2
  have d3 := q1.cell 3
  simp at c2 c3 d2 d3
  clear p1 q1
  go_wp2_with fail
  refine (eqSyncThrow_same _ _ _).mono ?_
  rintro e w2 ⟨rfl, b2⟩
  replace b1 := b1.trans (b2.mono b1.size)
  clear b2 c2 c3 d2 d3
  go_wp2
  go_ret
  exact ⟨rfl, b1⟩

set_option maxRecDepth 10000 in
set_option maxHeartbeats 400000 in
theorem eqSyncBeatS_row (g g' cap cap' B B' : Nat) (xs : List Syn) (w : World) (h : Syns w B (.slice (some ⟨g, 0, none⟩) xs.length cap) xs) (h' : Syns w B' (.slice (some ⟨g', 0, none⟩) xs.length cap') xs) (hg : g < w.heap.size) (hg' : g' < w.heap.size) :
    Calls Try.prog 48 #[.slice (some ⟨g, 0, none⟩) xs.length cap, .slice (some ⟨g', 0, none⟩) xs.length cap'] w fun e w' => e = .returned (.bool true) ∧ Below w.heap.size w w' := by
  have hm := h.len
  obtain ⟨n, hn⟩ : ∃ n, n = xs.length := ⟨_, rfl⟩
  have hc : ∀ i, i < n → Four w g (i * 4) (xs.getD i s0) := fun i hi => h.four i (by omega)
  have hc' : ∀ i, i < n → Four w g' (i * 4) (xs.getD i s0) := fun i hi => h'.four i (by omega)
  rw [← hn] at hm ⊢
  clear h h'
  have HN := Lib.hid hn
  clear hn
  go_enter Try.func48, Try.ntmps48
  go_wp2
  go_loopw [5] (fun i wr => ∃ k : Nat, k ≤ n ∧ i = .int .i64 k ∧ Below w.heap.size w wr) (fun i _ => n - (intOf i).toNat)
  case atStart => exact ⟨0, Nat.zero_le _, rfl, Below.refl _ _⟩
  case round =>
    obtain ⟨k, hk, rfl, hb⟩ := hrel
    by_cases hlt : k < n
    · obtain ⟨c0, c1, c2, c3⟩ := (hc k hlt).below hb hg
      obtain ⟨d0, d1, d2, d3⟩ := (hc' k hlt).below hb hg'
      have HE := Lib.hid (fun W (hW : Below wr.heap.size wr W) => show Calls Try.prog 96 #[.agg #[.int .i64 (xs.getD k s0).1.1, .bool (xs.getD k s0).1.2, .int .i64 (xs.getD k s0).2.1, .bool (xs.getD k s0).2.2], .agg #[.int .i64 (xs.getD k s0).1.1, .bool (xs.getD k s0).1.2, .int .i64 (xs.getD k s0).2.1, .bool (xs.getD k s0).2.2]] W fun e w' => e = .returned (.bool true) ∧ Below wr.heap.size wr w' from
        (eqSyncBeat_same _ _ _ _ W).mono fun e w' ⟨h1, h2⟩ => ⟨h1, hW.trans (h2.mono hW.size)⟩)
      clear hc hc'
      generalize xs.getD k s0 = y at *
      obtain ⟨⟨y0, y1⟩, y2, y3⟩ := y
      simp only at c0 c1 c2 c3 d0 d1 d2 d3 HE
      go_wp2
      go_region_law (first | (go_simp; go_at_call 96; (with_reducible refine (HE.out _ ?_).mono ?_); (repeat (first | exact Below.refl _ _ | refine Below.drew ?_ | refine below_drewN ?_ _)); rintro e w2 ⟨rfl, b2⟩))
      all_goals go_wp2
      all_goals exact ⟨⟨k + 1, by omega, by go_num, hb.trans (b2.mono hb.size)⟩, by simp [intOf]; omega⟩
    · obtain rfl : k = n := by omega
      clear hc hc'
      go_wp2
      go_ret
      exact ⟨rfl, hb⟩

set_option maxRecDepth 10000 in
theorem eqSyncBeatS_zero (a a' : Option Addr) (cap cap' : Nat) (w : World) :
    Calls Try.prog 48 #[.slice a 0 cap, .slice a' 0 cap'] w fun e w' => e = .returned (.bool true) ∧ Below w.heap.size w w' := by
  go_enter Try.func48, Try.ntmps48
  go_wp2
  refine wp_loop_rounds 1 ?_
  rw [rounds_succ]
  go_wp2
  go_ret
  exact ⟨rfl, Below.refl _ _⟩

theorem eqSyncBeatS_any (v u : Value) (B B' : Nat) (xs : List Syn) (w : World) (h : Syns w B v xs) (h' : Syns w B' u xs) :
    Calls Try.prog 48 #[v, u] w fun e w' => e = .returned (.bool true) ∧ Below w.heap.size w w' := by
  rcases h.shape with ⟨rfl, rfl⟩ | ⟨g, cap, rfl, _, hg, _, _⟩
  · rcases h'.shape with ⟨rfl, _⟩ | ⟨g', cap', rfl, _, _, _, _⟩
    · exact eqSyncBeatS_zero _ _ _ _ _
    · exact eqSyncBeatS_zero _ _ _ _ _
  · rcases h'.shape with ⟨rfl, rfl⟩ | ⟨g', cap', rfl, _, hg', _, _⟩
    · exact eqSyncBeatS_zero _ _ _ _ _
    · exact eqSyncBeatS_row _ _ _ _ _ _ _ _ h h' hg hg'

/-! ### marks -/
def mkS (k : Int) : Syn := ((k, (k + 1) % 3 == 0), (k + 2, (k + 3) % 3 == 0))
def upsS (k : Int) (n : Nat) : List Syn := (List.range n).map fun i : Nat => mkS (k + 4 * (i : Int))
theorem upsS_len (k : Int) (n : Nat) : (upsS k n).length = n := by simp [upsS]
theorem upsS_get (k : Int) (n j : Nat) (h : j < n) : (upsS k n).getD j s0 = mkS (k + 4 * (j : Int)) := by simp [upsS, h]
theorem upsS_set (k : Int) (xs : List Syn) (j : Nat) (h : j < xs.length) : (upsS k j ++ xs.drop j).set j (mkS (k + 4 * (j : Int))) = upsS k (j + 1) ++ xs.drop (j + 1) := by
  have e1 : upsS k (j + 1) = upsS k j ++ [mkS (k + 4 * (j : Int))] := by simp [upsS, List.range_succ]
  rw [List.set_append_right _ _ (by rw [upsS_len]; exact Nat.le_refl _), upsS_len, Nat.sub_self, e1, List.append_assoc]
  congr 1
  rw [List.drop_eq_getElem_cons h]
  rfl
theorem grown_four {w wr : World} {g o : Nat} (h : w.grownBy wr (some g)) (a b c d : Value) : w.grownBy ((((wr.setCell ⟨g, o, none⟩ a).setCell ⟨g, o + 1, none⟩ b).setCell ⟨g, o + 2, none⟩ c).setCell ⟨g, o + 3, none⟩ d) (some g) := by
  have one : ∀ (wr : World) (o : Nat) (a : Value), w.grownBy wr (some g) → w.grownBy (wr.setCell ⟨g, o, none⟩ a) (some g) := fun wr o a h =>
    ⟨h.os, h.tape, h.output, by simpa using h.size, fun k hk hne => by rw [Below.heap_setCell _ _ _ _ (by simpa using fun e => hne (by rw [e]))]; exact h.block k hk hne⟩
  exact one _ _ _ (one _ _ _ (one _ _ _ (one _ _ _ h)))

set_option maxRecDepth 10000 in
set_option maxHeartbeats 400000 in
theorem markSyncBeatS_row (g cap B : Nat) (xs : List Syn) (k0 : Int) (w : World) (h : Syns w B (.slice (some ⟨g, 0, none⟩) xs.length cap) xs) (hk0 : 0 ≤ k0) (hk1 : k0 + 4 * xs.length ≤ 1000000000000) :
    Calls Try.prog 49 #[.slice (some ⟨g, 0, none⟩) xs.length cap, .int .i64 k0] w fun e w' =>
      e = .returned (.int .i64 (k0 + 4 * xs.length)) ∧ Syns w' B (.slice (some ⟨g, 0, none⟩) xs.length cap) (upsS k0 xs.length) ∧ w.grownBy w' (some g) := by
  have hm := h.len
  obtain ⟨n, hn⟩ : ∃ n, n = xs.length := ⟨_, rfl⟩
  have hs : Syns w B (.slice (some ⟨g, 0, none⟩) xs.length cap) (upsS k0 0 ++ xs.drop 0) := by simpa [upsS] using h
  rw [← hn] at hm hk1 hs ⊢
  clear h
  have HN := Lib.hid hn
  clear hn
  go_enter Try.func49, Try.ntmps49
  go_wp2
  go_loopw [1, 5] (fun c i wr => ∃ (k : Nat) (c0 : Int), k ≤ n ∧ i = .int .i64 k ∧ c = .int .i64 c0 ∧ Hid (c0 = k0 + 4 * k) ∧ Syns wr B (.slice (some ⟨g, 0, none⟩) n cap) (upsS k0 k ++ xs.drop k) ∧ w.grownBy wr (some g))
    (fun _ i _ => n - (intOf i).toNat)
  case atStart => exact ⟨0, k0, Nat.zero_le _, rfl, rfl, by unfold Hid; simp, hs, World.grownBy.refl _ _⟩
  case round =>
    obtain ⟨k, c, hk, rfl, rfl, hcc, hr, hg⟩ := hrel
    by_cases hlt : k < n
    · have hn := HN.out
      have hlen : k < (upsS k0 k ++ xs.drop k).length := by simp [upsS_len]; omega
      obtain ⟨d0, d1, d2, d3⟩ := hr.four k hlen
      have f0 := hr.free (k * 4)
      have f1 := hr.free (k * 4 + 1)
      have f2 := hr.free (k * 4 + 2)
      have f3 := hr.free (k * 4 + 3)
      have hN := hr.put4 k hlen (mkS c)
      have hc := hcc.out
      have hc0 : 0 ≤ c := by omega
      have hc1 : c ≤ 1000000000000 := by omega
      have e := upsS_set k0 xs k (by omega)
      rw [← hc] at e
      rw [e] at hN
      have hgN := grown_four (o := k * 4) hg (.int .i64 c) (.bool ((c + 1) % 3 == 0)) (.int .i64 (c + 2)) (.bool ((c + 3) % 3 == 0))
      have HNN := Lib.hid hN
      have HGN := Lib.hid hgN
      have HC2 : Hid (c + 4 = k0 + 4 * ((k + 1 : Nat) : Int)) := by unfold Hid; omega
      clear hs hn hlen hN hgN hr hg e hc
      go_wp2
      rw [show c + 1 + 1 + 1 + 1 = c + 4 by omega, show c + 1 + 1 + 1 = c + 3 by omega, show c + 1 + 1 = c + 2 by omega]
      exact ⟨⟨k + 1, c + 4, by omega, by go_num, rfl, HC2, HNN.out, HGN.out⟩, by simp [intOf]; omega⟩
    · obtain rfl : k = n := by omega
      have hn := HN.out
      have hd : xs.drop k = [] := by simp; omega
      rw [hd, List.append_nil] at hr
      have hc := hcc.out
      subst hc
      clear hs hn hd
      go_wp2
      go_ret
      exact ⟨rfl, hr, hg⟩

set_option maxRecDepth 10000 in
theorem markSyncBeatS_zero (a : Option Addr) (cap : Nat) (k0 : Int) (w : World) :
    Calls Try.prog 49 #[.slice a 0 cap, .int .i64 k0] w fun e w' => e = .returned (.int .i64 k0) ∧ w = w' := by
  go_enter Try.func49, Try.ntmps49
  go_wp2
  refine wp_loop_rounds 1 ?_
  rw [rounds_succ]
  go_wp2
  go_ret
  exact ⟨rfl, rfl⟩

theorem markSyncBeatS_any (v : Value) (B : Nat) (xs : List Syn) (k0 : Int) (w : World) (h : Syns w B v xs) (hk0 : 0 ≤ k0) (hk1 : k0 + 4 * xs.length ≤ 1000000000000) :
    Calls Try.prog 49 #[v, .int .i64 k0] w fun e w' =>
      e = .returned (.int .i64 (k0 + 4 * xs.length)) ∧ Syns w' B v (upsS k0 xs.length) ∧ w.grownBy w' v.ownBlock := by
  rcases h.shape with ⟨rfl, rfl⟩ | ⟨g, cap, rfl, _, _, _⟩
  · refine (markSyncBeatS_zero _ _ _ _).mono ?_
    rintro e w' ⟨rfl, rfl⟩
    exact ⟨by simp, OwnK.nil _ _ _ _ _, World.grownBy.refl _ _⟩
  · exact markSyncBeatS_row _ _ _ _ _ _ h hk0 hk1

set_option maxRecDepth 10000 in
set_option maxHeartbeats 400000 in
theorem heldSyncBeatS_row (g cap B n : Nat) (k0 : Int) (w : World) (h : Syns w B (.slice (some ⟨g, 0, none⟩) n cap) (upsS k0 n)) (hg : g < w.heap.size) (hk0 : 0 ≤ k0) (hk1 : k0 + 4 * n ≤ 1000000000000) :
    Calls Try.prog 50 #[.slice (some ⟨g, 0, none⟩) n cap, .int .i64 k0] w fun e w' => e = .returned (.int .i64 (k0 + 4 * n)) ∧ Below w.heap.size w w' := by
  have hc : ∀ i, i < n → Four w g (i * 4) (mkS (k0 + 4 * (i : Int))) := fun i hi => by
    have := h.four i (by rw [upsS_len]; exact hi)
    rwa [upsS_get k0 n i hi] at this
  clear h
  go_enter Try.func50, Try.ntmps50
  go_wp2
  go_loopw [1, 5] (fun c i wr => ∃ (k : Nat) (c0 : Int), k ≤ n ∧ i = .int .i64 k ∧ c = .int .i64 c0 ∧ Hid (c0 = k0 + 4 * k) ∧ Below w.heap.size w wr)
    (fun _ i _ => n - (intOf i).toNat)
  case atStart => exact ⟨0, k0, Nat.zero_le _, rfl, rfl, by unfold Hid; simp, Below.refl _ _⟩
  case round =>
    obtain ⟨k, c, hk, rfl, rfl, hcc, hb⟩ := hrel
    by_cases hlt : k < n
    · have hh := hc k hlt
      rw [← hcc.out] at hh
      obtain ⟨d0, d1, d2, d3⟩ := hh.below hb hg
      have e := hcc.out
      have hc0 : 0 ≤ c := by omega
      have hc1 : c ≤ 1000000000000 := by omega
      have HC2 : Hid (c + 4 = k0 + 4 * ((k + 1 : Nat) : Int)) := by unfold Hid; omega
      simp only [mkS] at d0 d1 d2 d3
      rw [show c + 2 = c + 1 + 1 by omega] at d2
      rw [show c + 3 = c + 1 + 1 + 1 by omega] at d3
      clear hc hh e
      go_wp2
      rw [show c + 1 + 1 + 1 + 1 = c + 4 by omega]
      exact ⟨⟨k + 1, c + 4, by omega, by go_num, rfl, HC2, hb⟩, by simp [intOf]; omega⟩
    · obtain rfl : k = n := by omega
      have e := hcc.out
      subst e
      clear hc
      go_wp2
      go_ret
      exact ⟨rfl, hb⟩

set_option maxRecDepth 10000 in
theorem heldSyncBeatS_zero (a : Option Addr) (cap : Nat) (k0 : Int) (w : World) :
    Calls Try.prog 50 #[.slice a 0 cap, .int .i64 k0] w fun e w' => e = .returned (.int .i64 k0) ∧ Below w.heap.size w w' := by
  go_enter Try.func50, Try.ntmps50
  go_wp2
  refine wp_loop_rounds 1 ?_
  rw [rounds_succ]
  go_wp2
  go_ret
  exact ⟨rfl, Below.refl _ _⟩

theorem heldSyncBeatS_any (v : Value) (B n : Nat) (k0 : Int) (w : World) (h : Syns w B v (upsS k0 n)) (hk0 : 0 ≤ k0) (hk1 : k0 + 4 * n ≤ 1000000000000) :
    Calls Try.prog 50 #[v, .int .i64 k0] w fun e w' => e = .returned (.int .i64 (k0 + 4 * n)) ∧ Below w.heap.size w w' := by
  rcases h.shape with ⟨rfl, h0⟩ | ⟨g, cap, rfl, _, hg, _, _⟩
  · obtain rfl : n = 0 := by simpa [upsS_len] using congrArg List.length h0
    refine (heldSyncBeatS_zero _ _ _ _).mono ?_
    rintro e w' ⟨rfl, hb⟩
    exact ⟨by simp, hb⟩
  · rw [upsS_len] at h ⊢
    exact heldSyncBeatS_row _ _ _ _ _ _ h hg hk0 hk1
end Go.Proofs.Ytgjmhihomklooaa
