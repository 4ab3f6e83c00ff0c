/- The laws' own helpers on passing patterns: szPassing, toPassing, eqPassing, markPassing, heldPassing. Conditions: bounds on lengths. -/
import Derived.Test.YtjhhldfhfebboaaPasV
import Derived.Test.YtjhhldfhfebboaaGrid
namespace Go.Proofs.Ytjhhldfhfebboaa
open Go.RowKit
set_option linter.unusedSimpArgs false
set_option linter.unusedVariables false

/-- two lists of throws of a call's own, apart from each other, all in the blocks from B on below C -/
structure PasP (w : World) (B C : Nat) (va vb : Value) (a b : List Pt) : Prop where
  fst : Pas w B va a
  snd : Pas w B vb b
  fstU : Under C va
  sndU : Under C vb
  apart : ∀ g, va.ownBlock = some g → vb.ownBlock ≠ some g
theorem PasP.keep {w w' : World} {B C : Nat} {va vb : Value} {a b : List Pt} (h : PasP w B C va vb a b) (hk : ∀ k, k < w.heap.size → B ≤ k → k < C → w'.heap[k]? = w.heap[k]?) : PasP w' B C va vb a b :=
  ⟨h.fst.block fun g hg hlt => hk g hlt (h.fst.own_ge hg) (h.fstU g hg), h.snd.block fun g hg hlt => hk g hlt (h.snd.own_ge hg) (h.sndU g hg), h.fstU, h.sndU, h.apart⟩
theorem PasP.below {w w' : World} {B C : Nat} {va vb : Value} {a b : List Pt} (h : PasP w B C va vb a b) (hb : Below w.heap.size w w') : PasP w' B C va vb a b := h.keep fun k hk _ _ => hb.block k hk
theorem PasP.within {w w' : World} {B C B' C' : Nat} {va vb : Value} {a b : List Pt} (h : PasP w B C va vb a b) (hk : Within B' C' w w') (hd : C ≤ B' ∨ C' ≤ B) : PasP w' B C va vb a b := h.keep fun k hk' h1 h2 => hk.block k hk' (by omega)
theorem PasP.widen {w : World} {B C B' C' : Nat} {va vb : Value} {a b : List Pt} (h : PasP w B C va vb a b) (hB : B' ≤ B) (hC : C ≤ C') : PasP w B' C' va vb a b :=
  ⟨h.fst.mono hB, h.snd.mono hB, fun g hg => Nat.lt_of_lt_of_le (h.fstU g hg) hC, fun g hg => Nat.lt_of_lt_of_le (h.sndU g hg) hC, h.apart⟩
theorem PasP.nil (w : World) (B C : Nat) : PasP w B C (.slice none 0 0) (.slice none 0 0) [] [] :=
  ⟨OwnK.nil _ _ _ _ _, OwnK.nil _ _ _ _ _, fun g hg => by simp [Value.ownBlock] at hg, fun g hg => by simp [Value.ownBlock] at hg, fun g hg => by simp [Value.ownBlock] at hg⟩
theorem PasP.swap {w : World} {B C : Nat} {va vb : Value} {a b : List Pt} (h : PasP w B C va vb a b) : PasP w B C vb va b a := ⟨h.snd, h.fst, h.sndU, h.fstU, fun g hg e => h.apart g e hg⟩

theorem one_blk (w w1 : World) (a : Array Value) (S : TypeId) (h : Below (w.alloc (.cells a S)).heap.size (w.alloc (.cells a S)) w1) : Blk w1 w.heap.size a.toList S ∧ Below w.heap.size w w1 :=
  ⟨(Blk.made w a S).below h (by simp), ((Below.refl w.heap.size w).alloc (Nat.le_refl _) _).trans (h.mono (by simp))⟩
theorem two_blkP (w w1 : World) (a b : Array Value) (S T : TypeId) (h : Below ((w.alloc (.cells a S)).alloc (.cells b T)).heap.size ((w.alloc (.cells a S)).alloc (.cells b T)) w1) :
    Blk w1 w.heap.size a.toList S ∧ Blk w1 (w.heap.size + 1) b.toList T ∧ Below w.heap.size w w1 := by
  have h1 := ((Blk.made w a S).alloc (.cells b T)).below h (by simp; omega)
  have h2 := (Blk.made (w.alloc (.cells a S)) b T).below h (by simp)
  exact ⟨h1, by simpa using h2, (((Below.refl w.heap.size w).alloc (Nat.le_refl _) _).alloc (by simp) _).trans (h.mono (by simp; omega))⟩
theorem three_blkP (w w1 : World) (a b c : Array Value) (S T U : TypeId) (h : Below (((w.alloc (.cells a S)).alloc (.cells b T)).alloc (.cells c U)).heap.size (((w.alloc (.cells a S)).alloc (.cells b T)).alloc (.cells c U)) w1) :
    Blk w1 w.heap.size a.toList S ∧ Blk w1 (w.heap.size + 1) b.toList T ∧ Blk w1 (w.heap.size + 1 + 1) c.toList U ∧ Below w.heap.size w w1 := by
  have h1 := (((Blk.made w a S).alloc (.cells b T)).alloc (.cells c U)).below h (by simp; omega)
  have h2 := ((Blk.made (w.alloc (.cells a S)) b T).alloc (.cells c U)).below h (by simp)
  have h3 := (Blk.made ((w.alloc (.cells a S)).alloc (.cells b T)) c U).below h (by simp)
  exact ⟨h1, by simpa using h2, by simpa using h3, ((((Below.refl w.heap.size w).alloc (Nat.le_refl _) _).alloc (by simp) _).alloc (by simp; omega) _).trans (h.mono (by simp; omega))⟩

set_option maxRecDepth 10000 in
theorem szPassing_any (a b : Option Addr) (la ca lb cb : Nat) (left : Int) (w : World) (hm : la ≤ 9223372036854775807) (hm' : lb ≤ 9223372036854775807) (h0 : 0 ≤ left) (h1 : left ≤ 1048576) :
    Calls Try.prog 11 #[.agg #[.slice a la ca, .slice b lb cb], .int .i64 left] w fun e w' => ∃ r, e = .returned (.int .i64 r) ∧ (r = -1 ∨ (0 ≤ r ∧ r = left - la - lb)) ∧ Below w.heap.size w w' := by
  go_enter Try.func11, Try.ntmps11
  go_wp2_with fail
  refine (szPassThrowS_any a la ca left _ hm h0 h1).mono ?_
  rintro e w1 ⟨r, rfl, hr, b1⟩
  obtain ⟨p1, b1⟩ := one_blk w w1 _ _ b1
  rcases hr with rfl | ⟨hr0, hr1⟩
  · clear p1
    go_wp2
    go_ret
    exact ⟨_, rfl, .inl rfl, b1⟩
  · have c1 := p1.cell 1
    simp at c1
    have HR := Lib.hid hr1
    have hr2 : r ≤ 1048576 := by omega
    clear p1 hr1
    go_wp2_with fail
    refine (szPassThrowS_any b lb cb r _ hm' hr0 hr2).mono ?_
    rintro e w2 ⟨s, rfl, hs, b2⟩
    replace b1 := b1.trans (b2.mono b1.size)
    clear b2 c1
    rcases hs with rfl | ⟨hs0, hs1⟩
    · go_wp2
      go_ret
      exact ⟨_, rfl, .inl rfl, b1⟩
    · have HS := Lib.hid hs1
      clear hs1
      go_wp2
      go_ret
      exact ⟨_, rfl, .inr ⟨hs0, by have := HR.out; have := HS.out; omega⟩, b1⟩

theorem toPassThrowS_ex (a : Option Addr) (len cap : Nat) (zs : List Pt) (w : World) (h : IsPas w a len cap zs) (hbig : len ≤ 1048576) :
    Calls Try.prog 50 #[.slice a len cap] w fun e w' => ∃ x y z, e = .returned (.slice x y z) ∧ Pas w' w.heap.size (.slice x y z) zs ∧ Below w.heap.size w w' :=
  (toPassThrowS_any a len cap zs w h hbig).mono fun e w' ⟨h1, h2, h3⟩ => ⟨_, _, _, h1, h2, h3⟩

set_option maxRecDepth 10000 in
set_option maxHeartbeats 400000 in
theorem toPassing_any (a b : Option Addr) (la ca lb cb : Nat) (za zb : List Pt) (w : World) (ha : IsPas w a la ca za) (hb : IsPas w b lb cb zb) (hla : la ≤ 1048576) (hlb : lb ≤ 1048576) :
    Calls Try.prog 13 #[.agg #[.slice a la ca, .slice b lb cb]] w fun e w' =>
      ∃ x y z x' y' z', e = .returned (.agg #[.slice x y z, .slice x' y' z']) ∧ PasP w' w.heap.size w'.heap.size (.slice x y z) (.slice x' y' z') za zb ∧ Below w.heap.size w w' := by
  have HA := Lib.hid (fun W (hW : Below w.heap.size w W) => toPassThrowS_ex a la ca za W (ha.below pasV_len hW) hla)
  have HB := Lib.hid (fun W (hW : Below w.heap.size w W) => toPassThrowS_ex b lb cb zb W (hb.below pasV_len hW) hlb)
  clear ha hb
  go_enter Try.func13, Try.ntmps13
  go_wp2_with fail
  refine (HA.out _ ((((Below.refl w.heap.size w).alloc (Nat.le_refl _) _).alloc (by simp) _).alloc (by simp; omega) _)).mono ?_
  rintro e w1 ⟨x, y, z, rfl, i1, b1⟩
  obtain ⟨p1, q1, r1, b1⟩ := three_blkP w w1 _ _ _ _ _ _ b1
  have c1 := p1.cell 1
  have o0 := r1.cell 0
  have f0 := r1.free 0
  have r2 := r1.set 0 (.slice x y z)
  have q2 := q1.other (p := ⟨w.heap.size + 1 + 1, 0, none⟩) (by simp) (.slice x y z)
  have b2 := b1.setCell (p := ⟨w.heap.size + 1 + 1, 0, none⟩) (by simp; omega) (.slice x y z)
  have hz1 : w.heap.size + 1 + 1 + 1 ≤ w1.heap.size := by have := r1.lt; omega
  have i2 : Pas (w1.setCell ⟨w.heap.size + 1 + 1, 0, none⟩ (.slice x y z)) (w.heap.size + 1 + 1 + 1) (.slice x y z) za := (i1.mono (by simp)).block fun g hg _ => Below.heap_setCell _ _ _ _ (by have := i1.own_ge hg; simp at this ⊢; omega)
  have u1 : Under w1.heap.size (.slice x y z) := i1.under
  clear p1 q1 r1 b1 i1
  simp at c1 o0
  go_wp2_with fail
  refine (HB.out _ b2).mono ?_
  rintro e w2 ⟨x', y', z', rfl, i3, b3⟩
  have hz2 := b3.size
  have r3 := r2.below b3 r2.lt
  have q3 := q2.below b3 q2.lt
  have i4 := i2.below b3
  have b4 := b2.trans (b3.mono b2.size)
  have i3' : Pas w2 w1.heap.size (.slice x' y' z') zb := i3.mono (by simp)
  have u3 : Under w2.heap.size (.slice x' y' z') := i3.under
  clear HA HB c1 o0 f0 r2 q2 b2 i2 i3 b3
  simp at hz2
  have f1 := r3.free 1
  have o1 := r3.cell 1
  have r4 := r3.set 1 (.slice x' y' z')
  have x0 := r4.cell 0
  have x1 := r4.cell 1
  have g0 := q3.cell 0
  have g1 := q3.cell 1
  have k0 := q3.free 0
  have k1 := q3.free 1
  have q4 := ((q3.other (p := ⟨w.heap.size + 1 + 1, 1, none⟩) (by simp) (.slice x' y' z')).set 0 (.slice x y z)).set 1 (.slice x' y' z')
  have y0 := q4.cell 0
  have y1 := q4.cell 1
  simp at o1 x0 x1 g0 g1 y0 y1
  clear r3 r4 q3 q4
  have KEEP : Hid (∀ k, w.heap.size + 1 + 1 + 1 ≤ k → (((w2.setCell ⟨w.heap.size + 1 + 1, 1, none⟩ (.slice x' y' z')).setCell ⟨w.heap.size + 1, 0, none⟩ (.slice x y z)).setCell ⟨w.heap.size + 1, 1, none⟩ (.slice x' y' z')).heap[k]? = w2.heap[k]?) := fun k hk => by
    rw [Below.heap_setCell _ _ _ _ (by simp; omega), Below.heap_setCell _ _ _ _ (by simp; omega), Below.heap_setCell _ _ _ _ (by simp; omega)]
  have I4 := Lib.hid i4
  have I3 := Lib.hid i3'
  have U1 := Lib.hid u1
  have U3 := Lib.hid u3
  have BF := Lib.hid (((b4.setCell (p := ⟨w.heap.size + 1 + 1, 1, none⟩) (by simp; omega) (.slice x' y' z')).setCell (p := ⟨w.heap.size + 1, 0, none⟩) (by simp) (.slice x y z)).setCell (p := ⟨w.heap.size + 1, 1, none⟩) (by simp) (.slice x' y' z'))
  clear i4 i3' u1 u3 b4
  go_wp2
  refine bodyPost_ret (v := .agg #[(.slice x y z), (.slice x' y' z')]) (by simp [results, Try.results13, go_sem, y0, y1]) rfl ?_
  refine ⟨x, y, z, x', y', z', rfl, ⟨(I4.out.block fun g hg _ => KEEP.out g (I4.out.own_ge hg)).mono (by omega), (I3.out.block fun g hg _ => KEEP.out g (by have := I3.out.own_ge hg; omega)).mono (by omega), fun g hg => by have := U1.out g hg; simp; omega, fun g hg => by have := U3.out g hg; simpa using this, fun g hg e => by have h1 := U1.out g hg; have h2 := I3.out.own_ge e; omega⟩, BF.out⟩

set_option maxRecDepth 10000 in
theorem eqPassing_any (va vb ua ub : Value) (B C B' C' : Nat) (a b : List Pt) (w : World) (h : PasP w B C va vb a b) (h' : PasP w B' C' ua ub a b) :
    Calls Try.prog 16 #[.agg #[va, vb], .agg #[ua, ub]] w fun e w' => e = .returned (.bool true) ∧ Below w.heap.size w w' := by
  have HA := fun W (hW : Below w.heap.size w W) => eqPassThrowS_any va ua B B' a W (h.fst.below hW) (h'.fst.below hW)
  have HB := fun W (hW : Below w.heap.size w W) => eqPassThrowS_any vb ub B B' b W (h.snd.below hW) (h'.snd.below hW)
  clear h h'
  go_enter Try.func16, Try.ntmps16
  go_wp2_with fail
  refine (HA _ (((Below.refl w.heap.size w).alloc (Nat.le_refl _) _).alloc (by simp) _)).mono ?_
  rintro e w1 ⟨rfl, b1⟩
  obtain ⟨p1, q1, b1⟩ := two_blkP w w1 _ _ _ _ b1
  have c1 := p1.cell 1
  have d1 := q1.cell 1
  simp at c1 d1
  clear p1 q1 HA
  go_wp2_with fail
  refine (HB _ b1).mono ?_
  rintro e w2 ⟨rfl, b2⟩
  replace b1 := b1.trans (b2.mono b1.size)
  clear b2 c1 d1 HB
  go_wp2
  go_ret
  exact ⟨rfl, b1⟩

set_option maxRecDepth 10000 in
theorem markPassing_any (va vb : Value) (B C : Nat) (a b : List Pt) (k0 : Int) (w : World) (h : PasP w B C va vb a b) (hk0 : 0 ≤ k0) (hk1 : k0 + 2 * a.length + 2 * b.length ≤ 1000000000000) :
    Calls Try.prog 17 #[.agg #[va, vb], .int .i64 k0] w fun e w' =>
      e = .returned (.int .i64 (k0 + 2 * a.length + 2 * b.length)) ∧ PasP w' B C va vb (upsP k0 a.length) (upsP (k0 + 2 * a.length) b.length) ∧ Within B C w w' := by
  have b0 := (Below.refl w.heap.size w).alloc (Nat.le_refl _) (.cells #[va, vb] 31)
  have HA := markPassThrowS_any va B a k0 _ (h.fst.below b0) hk0 (by omega)
  have hl : w.heap.size < (w.alloc (.cells #[va, vb] 31)).heap.size := by simp
  have HB := Lib.hid (fun W (gr : (w.alloc (.cells #[va, vb] 31)).grownBy W va.ownBlock) => markPassThrowS_any vb B b (k0 + 2 * a.length) W ((h.snd.below b0).block fun g hg hlt => gr.block g hlt fun e => h.apart g e.symm hg) (by omega) (by omega))
  have HU := Lib.hid h.fst.under
  have HV := Lib.hid h.snd.under
  have HH := Lib.hid h
  have ka : 0 ≤ k0 + 2 * (a.length : Int) := by omega
  clear h b0
  go_enter Try.func17, Try.ntmps17
  go_wp2_with fail
  refine HA.mono ?_
  rintro e w1 ⟨rfl, i1, g1⟩
  have hz1 := g1.size
  have p1 : Blk w1 w.heap.size [va, vb] 31 := (Blk.made w #[va, vb] _).block (g1.block _ (by simp) fun e => by have := HU.out _ e.symm; omega)
  have c1 := p1.cell 1
  simp at c1
  have HB2 := HB.out w1 g1
  clear p1 HA HB
  go_wp2_with fail
  refine HB2.mono ?_
  rintro e w2 ⟨rfl, i2, g2⟩
  have I1 := Lib.hid i1
  have I2 := Lib.hid i2
  have G1 := Lib.hid g1
  have G2 := Lib.hid g2
  clear i1 i2 g1 g2 c1 HB2
  go_wp2
  go_ret
  refine ⟨rfl, ⟨I1.out.block fun g hg hlt => G2.out.block g hlt fun e => HH.out.apart g hg e.symm, I2.out, HH.out.fstU, HH.out.sndU, HH.out.apart⟩, ?_⟩
  have W1 : Within B C w w1 := (Within.of_below ((Below.refl w.heap.size w).alloc (Nat.le_refl _) _) B C).trans (Within.of_grown G1.out fun g hg => ⟨HH.out.fst.own_ge hg, HH.out.fstU g hg⟩)
  exact W1.trans (Within.of_grown G2.out fun g hg => ⟨HH.out.snd.own_ge hg, HH.out.sndU g hg⟩)

set_option maxRecDepth 10000 in
theorem heldPassing_any (va vb : Value) (B C n m : Nat) (k0 : Int) (w : World) (h : PasP w B C va vb (upsP k0 n) (upsP (k0 + 2 * n) m)) (hk0 : 0 ≤ k0) (hk1 : k0 + 2 * n + 2 * m ≤ 1000000000000) :
    Calls Try.prog 24 #[.agg #[va, vb], .int .i64 k0] w fun e w' => e = .returned (.int .i64 (k0 + 2 * n + 2 * m)) ∧ Below w.heap.size w w' := by
  have HA := fun W (hW : Below w.heap.size w W) => heldPassThrowS_any va B n k0 W (h.fst.below hW) hk0 (by omega)
  have HB := fun W (hW : Below w.heap.size w W) => heldPassThrowS_any vb B m (k0 + 2 * n) W (h.snd.below hW) (by omega) (by omega)
  have ka : 0 ≤ k0 + 2 * (n : Int) := by omega
  have kb : 0 ≤ k0 + 2 * (n : Int) + 2 * (m : Int) := by omega
  clear h
  go_enter Try.func24, Try.ntmps24
  go_wp2_with fail
  refine (HA _ ((Below.refl w.heap.size w).alloc (Nat.le_refl _) _)).mono ?_
  rintro e w1 ⟨rfl, b1⟩
  obtain ⟨p1, b1⟩ := one_blk w w1 _ _ b1
  have c1 := p1.cell 1
  simp at c1
  clear p1 HA
  go_wp2_with fail
  refine (HB _ b1).mono ?_
  rintro e w2 ⟨rfl, b2⟩
  replace b1 := b1.trans (b2.mono b1.size)
  clear b2 c1 HB
  go_wp2
  go_ret
  exact ⟨rfl, b1⟩
end Go.Proofs.Ytjhhldfhfebboaa
