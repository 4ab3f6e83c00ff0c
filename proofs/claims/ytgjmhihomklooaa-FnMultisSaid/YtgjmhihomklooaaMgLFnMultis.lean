/- The law FnMultis returns true at every input, and leaves its arguments as they were. Conditions: none. -/
import Derived.Test.YtgjmhihomklooaaBentM
import Derived.Test.YtgjmhihomklooaaDrawB
import Derived.Test.YtgjmhihomklooaaAddMs
import Derived.Test.YtgjmhihomklooaaLandI
import Derived.Test.YtgjmhihomklooaaConcat
import Derived.Test.YtgjmhihomklooaaRotMi
import Derived.Test.YtgjmhihomklooaaAddMr
import Derived.Test.YtgjmhihomklooaaValidM
import Derived.Deep.RegionHeld3
import Derived.Test.YtgjmhihomklooaaPat
import Derived.Test.YtgjmhihomklooaaOwnK
import Derived.Test.YtgjmhihomklooaaInts
import Derived.Deep.RegionHeldLaw
import Derived.Deep.RegionLawGrows
import Derived.Test.YtgjmhihomklooaaDrawC
import Derived.Outline
import Derived.Test.YtgjmhihomklooaaSpec02
import Derived.Laws.StructEq
import Derived.Deep.AppendLies
import Derived.Deep.RegionLaw
import Derived.Test.YtgjmhihomklooaaSame
import Derived.Test.YtgjmhihomklooaaRows
import Derived.WalkKit
import Derived.ProofKit
import Derived.OpenShut
import Derived.ShutString
import Derived.ChangeOld
import Derived.Below

/- What the laws of multiplex patterns draw: one, or two. Condition: at most 10^9 bytes. -/
namespace Go.Proofs.Ytgjmhihomklooaa
open Go.RowKit
set_option linter.unusedSimpArgs false
set_option linter.unusedVariables false

theorem MulB.small {p : List (List Int)} (h : MulB p) : Small p := fun i hi => by have := h.2 i hi; omega
theorem heap_far2 (w : World) (p : Addr) (v : Value) (k : Nat) (h : k ≠ p.block) : (w.setCell p v).heap[k]? = w.heap[k]? := Below.heap_setCell w p v k h
theorem IsRow.far {w : World} {k : IntKind} {a : Option Addr} {len cap : Nat} {zs : List Int} (hr : IsRow k w a len cap zs) {N : Nat} (hN : w.heap.size ≤ N) : ∀ x, a = some x → 0 < zs.length → x.block ≠ N := by
  intro x hx h0
  rcases hr with ⟨rfl, _⟩ | ⟨y, rfl, _, _, _, hc, _⟩
  · cases hx
  · cases hx
    have h1 := cell_block (hc 0 h0)
    have e : (Addr.add _ 0).block = _ := show (Addr.add x 0).block = x.block by simp [Addr.add]
    rw [e] at h1
    omega

set_option maxRecDepth 10000 in
set_option maxHeartbeats 1000000 in
theorem drawMultiLandings_any (a : Option Addr) (len cap : Nat) (zs : List Int) (w : World) (hr : IsRow .u8 w a len cap zs) (hlen : len ≤ 1000000000) :
    Calls Try.prog 14 #[.slice a len cap] w fun e w' => ∃ x y z p, e = .returned (.agg #[.slice x y z]) ∧ Grid 32 w' w.heap.size w'.heap.size (.slice x y z) p ∧ MulB p ∧ Below w.heap.size w w' := by
  have hab := hr.far (N := w.heap.size + 1) (by omega)
  have b0 := (Below.refl w.heap.size w).alloc (Nat.le_refl _) (.cells #[.slice none 0 0] 26)
  have HR := Lib.hid (fun W (hW : Below w.heap.size w W) => hr.below hW)
  have HA := Lib.hid hab
  clear hr hab
  go_enter Try.func14, Try.ntmps14
  go_wp2_with fail
  refine (l00From_any a len cap _).mono ?_
  rintro e w1 ⟨rfl, s1, z1, b1⟩
  have v1 := (Var1.made w (.slice none 0 0) 26).below b1
  have B1 := b0.trans (b1.mono (by simp))
  simp only [World.size_alloc] at s1 z1
  have HB := l04Bent_any a len cap (w.heap.size + 1) 0 zs w1 s1 (HR.out _ B1) HA.out hlen (by omega)
  simp only [World.size_alloc]
  clear s1 b1 HR HA
  go_wp2_with fail
  refine HB.mono ?_
  rintro e w2 ⟨x, y, z, p, rfl, G2, hp, _, g2⟩
  have v2 := v1.grown g2 (by omega)
  obtain ⟨c2, f2⟩ := id v2
  have B2 : Below w.heap.size w w2 := B1.grown g2 B1.size (by intro q hq; cases hq; omega)
  have hz2 := g2.size
  have v3 := v2.set (.slice x y z)
  have c3 := v3.1
  have GG := Lib.hid (show Grid 32 (w2.setCell ⟨w.heap.size, 0, none⟩ (.slice x y z)) w.heap.size w2.heap.size (.slice x y z) p from (G2.keep fun k hk h1 h2 => heap_far2 _ _ _ _ (by show k ≠ w.heap.size; omega)).widen (by omega) (Nat.le_refl _))
  have BB := Lib.hid (B2.setCell (p := ⟨w.heap.size, 0, none⟩) (Nat.le_refl _) (.slice x y z))
  clear HB v1 v2 v3 B1 B2 G2 b0
  go_wp2
  refine bodyPost_ret (v := .agg #[.slice x y z]) (by simp [results, Try.results14, go_sem, c3]) rfl ?_
  exact ⟨x, y, z, p, rfl, by simpa using GG.out, hp, BB.out⟩

theorem l04DrawI (a : Option Addr) (len cap b k : Nat) (m : Int) (zs : List Int) (w : World) (hs : Src w b k (.slice a len cap)) (hr : IsRow .u8 w a len cap zs) (hab : ∀ x, a = some x → 0 < zs.length → x.block ≠ b) (hlen : len ≤ 1000000000) (hk : k ≤ 900000) (h1 : 1 ≤ m) (h2 : m ≤ 13) :
    Calls Try.prog 62 #[.pointer (some ⟨b, 0, none⟩), .int .i64 m] w fun e w' => ∃ x y z p, e = .returned (.agg #[.slice x y z]) ∧ Grid 32 w' w.heap.size w'.heap.size (.slice x y z) p ∧ MulB p ∧ w.grownBy w' (some b) := by
  have h := l04Draw_any a len cap b k m.toNat zs w hs hr hab hlen hk (by omega) (by omega)
  rw [show ((m.toNat : Nat) : Int) = m by omega] at h
  exact h.mono fun e w' ⟨x, y, z, p, e1, e2, e3, _, e5⟩ => ⟨x, y, z, p, e1, e2, e3.bent (by omega), e5⟩

set_option maxRecDepth 10000 in
set_option maxHeartbeats 4000000 in
theorem drawAddMulti_any (a : Option Addr) (len cap : Nat) (zs : List Int) (w : World) (hr : IsRow .u8 w a len cap zs) (hlen : len ≤ 1000000000) :
    Calls Try.prog 11 #[.slice a len cap] w fun e w' => ∃ x y z p x' y' z' q M, e = .returned (.tuple #[.agg #[.slice x y z], .agg #[.slice x' y' z']]) ∧ Grid 32 w' w.heap.size M (.slice x y z) p ∧ MulB p ∧ Grid 32 w' M w'.heap.size (.slice x' y' z') q ∧ MulB q ∧ Below w.heap.size w w' := by
  have hab := hr.far (N := w.heap.size + 1 + 1) (by omega)
  have b0 := ((Below.refl w.heap.size w).alloc (Nat.le_refl _) (.cells #[.slice none 0 0] 26)).alloc (by simp) (.cells #[.slice none 0 0] 26)
  have HR := Lib.hid (fun W (hW : Below w.heap.size w W) => hr.below hW)
  have HA := Lib.hid hab
  clear hr hab
  go_enter Try.func11, Try.ntmps11
  go_wp2_with fail
  refine (l00From_any a len cap _).mono ?_
  rintro e w1 ⟨rfl, s1, z1, b1⟩
  have v1 := ((Var1.made w (.slice none 0 0) 26).below ((Below.refl _ _).alloc (Nat.le_refl _) _)).below b1
  have u1 := (Var1.made (w.alloc (.cells #[.slice none 0 0] 26)) (.slice none 0 0) 26).below b1
  have B1 := b0.trans (b1.mono (by simp; omega))
  simp only [World.size_alloc] at s1 z1 u1
  have HB := l04Bent_any a len cap (w.heap.size + 1 + 1) 0 zs w1 s1 (HR.out _ B1) HA.out hlen (by omega)
  simp only [World.size_alloc]
  clear s1 b1
  go_wp2_with fail
  refine HB.mono ?_
  rintro e w2 ⟨x, y, z, p, rfl, G2, hp, s2, g2⟩
  have v2 := v1.grown g2 (by omega)
  have u2 := u1.grown g2 (by omega)
  have B2 : Below w.heap.size w w2 := B1.grown g2 B1.size (by intro q hq; cases hq; omega)
  have hz2 := g2.size
  have v3 := v2.below (low_al w2 (.cells #[.slice x y z] 26))
  have u3 := u2.below (low_al w2 (.cells #[.slice x y z] 26))
  have a3 := Var1.made w2 (.slice x y z) 26
  have s3 := s2.low (low_al w2 (.cells #[.slice x y z] 26))
  have B3 := B2.alloc B2.size (.cells #[.slice x y z] 26)
  have G3 := Lib.hid ((G2.below (low_al w2 (.cells #[.slice x y z] 26))))
  have hpl := hp.1
  have HPB := Lib.hid hp
  have hy : y ≤ 13 := by
    rcases G2.shape with ⟨e1, e2⟩ | ⟨g, c, e1, _⟩
    · simp at e1; omega
    · simp at e1; omega
  obtain ⟨N, hN⟩ : ∃ N, N = w2.heap.size := ⟨_, rfl⟩
  obtain ⟨X3, hX3⟩ : ∃ X, X = w2.alloc (.cells #[.slice x y z] 26) := ⟨_, rfl⟩
  have hzX : X3.heap.size = N + 1 := by rw [hX3, hN]; simp
  rw [← hN] at a3
  rw [← hX3] at v3 u3 a3 s3 B3 G3
  have ca := a3.1
  have HO := one_any a len cap (w.heap.size + 1 + 1) (0 + 300) 8 zs X3 s3 (HR.out _ B3) hlen (by omega) (by omega)
  rw [hX3] at HO ca
  clear HB v1 u1 v2 u2 B1 B2 G2 b0 s2 g2 hp
  go_wp2_with fail
  refine HO.mono ?_
  rw [← hX3, ← hN]
  rintro e w4 ⟨o, rfl, s4, g4⟩
  have v4 := v3.grown g4 (by omega)
  have u4 := u3.grown g4 (by omega)
  have a4 := a3.grown g4 (by omega)
  have B4 : Below w.heap.size w w4 := B3.grown g4 B3.size (by intro q hq; cases hq; omega)
  have hz4 := g4.size
  have G4 := Lib.hid (G3.out.keep (w' := w4) fun k hk h1 h2 => g4.block k hk (by intro e; cases e; omega))
  have HD := Lib.hid (fun (m : Int) (h1 : 1 ≤ m) (h2 : m ≤ 13) W (hW : Below w4.heap.size w4 W) => show Calls Try.prog 62 #[.pointer (some ⟨w.heap.size + 1 + 1, 0, none⟩), .int .i64 m] W fun e w' => ∃ x' y' z' q, e = .returned (.agg #[.slice x' y' z']) ∧ Grid 32 w' N w'.heap.size (.slice x' y' z') q ∧ MulB q ∧ Below w.heap.size w w' ∧ w'.cell? ⟨N, 0, none⟩ = some (.slice x y z) ∧ Var1 w' w.heap.size (.slice none 0 0) ∧ Var1 w' (w.heap.size + 1) (.slice none 0 0) ∧ Hid (Grid 32 w' w1.heap.size N (.slice x y z) p) from
    (l04DrawI a len cap (w.heap.size + 1 + 1) (0 + 300 + 1) m zs W (s4.low hW) (HR.out _ (B4.trans (hW.mono B4.size))) HA.out hlen (by omega) h1 h2).mono fun e w' ⟨x', y', z', q, e1, e2, e3, e4⟩ =>
      ⟨x', y', z', q, e1, e2.widen (by have := hW.size; omega) (Nat.le_refl _), e3, (B4.trans (hW.mono B4.size)).grown e4 (B4.trans (hW.mono B4.size)).size (by intro q hq; cases hq; omega),
        (((a4.below hW).grown e4 (by omega)).1), (v4.below hW).grown e4 (by omega), (u4.below hW).grown e4 (by omega), Lib.hid (((G4.out.below hW).keep fun k hk h1 h2 => e4.block k hk (by intro e; cases e; omega)).widen (Nat.le_refl _) (by omega))⟩)
  have ca4 := a4.1
  clear HO v3 u3 a3 s3 B3 ca G3 g4
  subst hN
  cases o with
  | true =>
    cases hin : inB ((y : Int) + 1) 1 12 with
    | true =>
      have hb := inB_iff.1 hin
      have HI := fun W => l00In_any ((y : Int) + 1) 1 12 W
      rw [hin] at HI
      have HDD := Lib.hid (HD.out ((y : Int) + 1) (by omega) (by omega))
      clear hin HD hb
      go_wp2_with fail
      refine (HI _).mono ?_
      rintro e w' ⟨rfl, rfl⟩
      clear HI
      go_wp2
      go_region_held3 (fun W => W.cell? ⟨w2.heap.size, 0, none⟩ = some (.slice x y z)) (first | assumption | exact cell_st (by assumption) (by omega) _) (first | (go_at_call 62; (with_reducible refine (HDD.out _ ?_).mono ?_); (repeat (first | assumption | exact Below.refl _ _ | refine Below.drew ?_ | refine below_drewN ?_ _)); rintro e w9 ⟨x', y', z', q, rfl, G9, hq, B9, ca9, v9, u9, G39⟩; obtain ⟨cv9, fv9⟩ := id v9; obtain ⟨cu9, fu9⟩ := id u9))
      all_goals have vf := (v9.set (.slice x y z)).other (c := w.heap.size + 1) (.slice x' y' z') (by omega)
      all_goals have uf := (u9.other (c := w.heap.size) (.slice x y z) (by omega)).set (.slice x' y' z')
      all_goals have HK := Lib.hid (fun (k : Nat) (hk : w.heap.size + 1 + 1 ≤ k) => show ((w9.setCell ⟨w.heap.size, 0, none⟩ (.slice x y z)).setCell ⟨w.heap.size + 1, 0, none⟩ (.slice x' y' z')).heap[k]? = w9.heap[k]? from (heap_far2 _ _ _ _ (by show k ≠ w.heap.size + 1; omega)).trans (heap_far2 _ _ _ _ (by show k ≠ w.heap.size; omega)))
      all_goals have BF := Lib.hid ((B9.setCell (p := ⟨w.heap.size, 0, none⟩) (Nat.le_refl _) (.slice x y z)).setCell (p := ⟨w.heap.size + 1, 0, none⟩) (by simp) (.slice x' y' z'))
      all_goals have GP := Lib.hid ((G39.out.keep fun k _ h1 h2 => HK.out k (by omega)).widen (B' := w.heap.size) (by omega) (Nat.le_refl _))
      all_goals have GQ := Lib.hid (G9.keep fun k _ h1 h2 => HK.out k (by omega))
      all_goals have cvf := vf.1
      all_goals have cuf := uf.1
      all_goals clear vf uf v9 u9 cv9 fv9 cu9 fu9 ca9 G9 B9 G39
      all_goals go_wp2
      all_goals refine bodyPost_ret (v := .tuple #[.agg #[.slice x y z], .agg #[.slice x' y' z']]) (by simp [results, Try.results11, go_sem, cvf, cuf]) rfl ?_
      all_goals exact ⟨x, y, z, p, x', y', z', q, w2.heap.size, rfl, GP.out, HPB.out, by simpa using GQ.out, hq, BF.out⟩
    | false =>
      have HI := fun W => l00In_any ((y : Int) + 1) 1 12 W
      rw [hin] at HI
      have HDD := Lib.hid (HD.out 2 (by omega) (by omega))
      clear hin HD
      go_wp2_with fail
      refine (HI _).mono ?_
      rintro e w' ⟨rfl, rfl⟩
      clear HI
      go_wp2
      go_region_held3 (fun W => W.cell? ⟨w2.heap.size, 0, none⟩ = some (.slice x y z)) (first | assumption | exact cell_st (by assumption) (by omega) _) (first | (go_at_call 62; (with_reducible refine (HDD.out _ ?_).mono ?_); (repeat (first | assumption | exact Below.refl _ _ | refine Below.drew ?_ | refine below_drewN ?_ _)); rintro e w9 ⟨x', y', z', q, rfl, G9, hq, B9, ca9, v9, u9, G39⟩; obtain ⟨cv9, fv9⟩ := id v9; obtain ⟨cu9, fu9⟩ := id u9))
      all_goals have vf := (v9.set (.slice x y z)).other (c := w.heap.size + 1) (.slice x' y' z') (by omega)
      all_goals have uf := (u9.other (c := w.heap.size) (.slice x y z) (by omega)).set (.slice x' y' z')
      all_goals have HK := Lib.hid (fun (k : Nat) (hk : w.heap.size + 1 + 1 ≤ k) => show ((w9.setCell ⟨w.heap.size, 0, none⟩ (.slice x y z)).setCell ⟨w.heap.size + 1, 0, none⟩ (.slice x' y' z')).heap[k]? = w9.heap[k]? from (heap_far2 _ _ _ _ (by show k ≠ w.heap.size + 1; omega)).trans (heap_far2 _ _ _ _ (by show k ≠ w.heap.size; omega)))
      all_goals have BF := Lib.hid ((B9.setCell (p := ⟨w.heap.size, 0, none⟩) (Nat.le_refl _) (.slice x y z)).setCell (p := ⟨w.heap.size + 1, 0, none⟩) (by simp) (.slice x' y' z'))
      all_goals have GP := Lib.hid ((G39.out.keep fun k _ h1 h2 => HK.out k (by omega)).widen (B' := w.heap.size) (by omega) (Nat.le_refl _))
      all_goals have GQ := Lib.hid (G9.keep fun k _ h1 h2 => HK.out k (by omega))
      all_goals have cvf := vf.1
      all_goals have cuf := uf.1
      all_goals clear vf uf v9 u9 cv9 fv9 cu9 fu9 ca9 G9 B9 G39
      all_goals go_wp2
      all_goals refine bodyPost_ret (v := .tuple #[.agg #[.slice x y z], .agg #[.slice x' y' z']]) (by simp [results, Try.results11, go_sem, cvf, cuf]) rfl ?_
      all_goals exact ⟨x, y, z, p, x', y', z', q, w2.heap.size, rfl, GP.out, HPB.out, by simpa using GQ.out, hq, BF.out⟩
  | false =>
    cases hin : inB (y : Int) 1 12 with
    | true =>
      have hb := inB_iff.1 hin
      have HI := fun W => l00In_any (y : Int) 1 12 W
      rw [hin] at HI
      have HDD := Lib.hid (HD.out (y : Int) (by omega) (by omega))
      clear hin HD hb
      go_wp2_with fail
      refine (HI _).mono ?_
      rintro e w' ⟨rfl, rfl⟩
      clear HI
      go_wp2
      go_region_held3 (fun W => W.cell? ⟨w2.heap.size, 0, none⟩ = some (.slice x y z)) (first | assumption | exact cell_st (by assumption) (by omega) _) (first | (go_at_call 62; (with_reducible refine (HDD.out _ ?_).mono ?_); (repeat (first | assumption | exact Below.refl _ _ | refine Below.drew ?_ | refine below_drewN ?_ _)); rintro e w9 ⟨x', y', z', q, rfl, G9, hq, B9, ca9, v9, u9, G39⟩; obtain ⟨cv9, fv9⟩ := id v9; obtain ⟨cu9, fu9⟩ := id u9))
      all_goals have vf := (v9.set (.slice x y z)).other (c := w.heap.size + 1) (.slice x' y' z') (by omega)
      all_goals have uf := (u9.other (c := w.heap.size) (.slice x y z) (by omega)).set (.slice x' y' z')
      all_goals have HK := Lib.hid (fun (k : Nat) (hk : w.heap.size + 1 + 1 ≤ k) => show ((w9.setCell ⟨w.heap.size, 0, none⟩ (.slice x y z)).setCell ⟨w.heap.size + 1, 0, none⟩ (.slice x' y' z')).heap[k]? = w9.heap[k]? from (heap_far2 _ _ _ _ (by show k ≠ w.heap.size + 1; omega)).trans (heap_far2 _ _ _ _ (by show k ≠ w.heap.size; omega)))
      all_goals have BF := Lib.hid ((B9.setCell (p := ⟨w.heap.size, 0, none⟩) (Nat.le_refl _) (.slice x y z)).setCell (p := ⟨w.heap.size + 1, 0, none⟩) (by simp) (.slice x' y' z'))
      all_goals have GP := Lib.hid ((G39.out.keep fun k _ h1 h2 => HK.out k (by omega)).widen (B' := w.heap.size) (by omega) (Nat.le_refl _))
      all_goals have GQ := Lib.hid (G9.keep fun k _ h1 h2 => HK.out k (by omega))
      all_goals have cvf := vf.1
      all_goals have cuf := uf.1
      all_goals clear vf uf v9 u9 cv9 fv9 cu9 fu9 ca9 G9 B9 G39
      all_goals go_wp2
      all_goals refine bodyPost_ret (v := .tuple #[.agg #[.slice x y z], .agg #[.slice x' y' z']]) (by simp [results, Try.results11, go_sem, cvf, cuf]) rfl ?_
      all_goals exact ⟨x, y, z, p, x', y', z', q, w2.heap.size, rfl, GP.out, HPB.out, by simpa using GQ.out, hq, BF.out⟩
    | false =>
      have HI := fun W => l00In_any (y : Int) 1 12 W
      rw [hin] at HI
      have HDD := Lib.hid (HD.out 2 (by omega) (by omega))
      clear hin HD
      go_wp2_with fail
      refine (HI _).mono ?_
      rintro e w' ⟨rfl, rfl⟩
      clear HI
      go_wp2
      go_region_held3 (fun W => W.cell? ⟨w2.heap.size, 0, none⟩ = some (.slice x y z)) (first | assumption | exact cell_st (by assumption) (by omega) _) (first | (go_at_call 62; (with_reducible refine (HDD.out _ ?_).mono ?_); (repeat (first | assumption | exact Below.refl _ _ | refine Below.drew ?_ | refine below_drewN ?_ _)); rintro e w9 ⟨x', y', z', q, rfl, G9, hq, B9, ca9, v9, u9, G39⟩; obtain ⟨cv9, fv9⟩ := id v9; obtain ⟨cu9, fu9⟩ := id u9))
      all_goals have vf := (v9.set (.slice x y z)).other (c := w.heap.size + 1) (.slice x' y' z') (by omega)
      all_goals have uf := (u9.other (c := w.heap.size) (.slice x y z) (by omega)).set (.slice x' y' z')
      all_goals have HK := Lib.hid (fun (k : Nat) (hk : w.heap.size + 1 + 1 ≤ k) => show ((w9.setCell ⟨w.heap.size, 0, none⟩ (.slice x y z)).setCell ⟨w.heap.size + 1, 0, none⟩ (.slice x' y' z')).heap[k]? = w9.heap[k]? from (heap_far2 _ _ _ _ (by show k ≠ w.heap.size + 1; omega)).trans (heap_far2 _ _ _ _ (by show k ≠ w.heap.size; omega)))
      all_goals have BF := Lib.hid ((B9.setCell (p := ⟨w.heap.size, 0, none⟩) (Nat.le_refl _) (.slice x y z)).setCell (p := ⟨w.heap.size + 1, 0, none⟩) (by simp) (.slice x' y' z'))
      all_goals have GP := Lib.hid ((G39.out.keep fun k _ h1 h2 => HK.out k (by omega)).widen (B' := w.heap.size) (by omega) (Nat.le_refl _))
      all_goals have GQ := Lib.hid (G9.keep fun k _ h1 h2 => HK.out k (by omega))
      all_goals have cvf := vf.1
      all_goals have cuf := uf.1
      all_goals clear vf uf v9 u9 cv9 fv9 cu9 fu9 ca9 G9 B9 G39
      all_goals go_wp2
      all_goals refine bodyPost_ret (v := .tuple #[.agg #[.slice x y z], .agg #[.slice x' y' z']]) (by simp [results, Try.results11, go_sem, cvf, cuf]) rfl ?_
      all_goals exact ⟨x, y, z, p, x', y', z', q, w2.heap.size, rfl, GP.out, HPB.out, by simpa using GQ.out, hq, BF.out⟩
end Go.Proofs.Ytgjmhihomklooaa

/- Multiplex, plain: what is said of all patterns: the sum of all throws is the props times the period; as many land as are thrown; two patterns at once have the props of both, in either order. No conditions but that they are patterns. -/
namespace Go.Proofs.Ytgjmhihomklooaa
open Go.RowKit
set_option linter.unusedSimpArgs false
set_option linter.unusedVariables false

theorem permSum {a b : List Int} (h : a.Perm b) : a.sum = b.sum := by
  induction h with
  | nil => rfl
  | cons x _ ih => simp [ih]
  | swap x y l => simp; omega
  | trans _ _ h1 h2 => exact h1.trans h2
theorem sum_nz (b : List Int) : (nz b).sum = b.sum := by
  induction b with
  | nil => rfl
  | cons x t ih =>
    unfold nz at *
    by_cases h : x = 0
    · subst h; simp [ih]
    · have : (!(x == 0)) = true := by simpa using h
      rw [List.filter_cons_of_pos (by simpa using h)]
      simp [ih]
theorem sum_sortL (b : List Int) : (sortL b).sum = b.sum := by
  unfold sortL
  by_cases h : (nz b).length = 0
  · rw [if_pos h, ← sum_nz b, List.length_eq_zero_iff.1 h]; rfl
  · rw [if_neg h, ← sum_nz b]
    exact permSum (descL_perm b)
theorem sortL_comm (a b : List Int) : sortL (a ++ b) = sortL (b ++ a) := by
  have hp : (nz (a ++ b)).Perm (nz (b ++ a)) := nz_perm List.perm_append_comm
  unfold sortL
  rw [hp.length_eq]
  by_cases h : (nz (b ++ a)).length = 0
  · rw [if_pos h, if_pos h]
  · rw [if_neg h, if_neg h]
    exact descL_of ((descL_perm (a ++ b)).trans hp) (descL_sorted (a ++ b))
theorem addG_comm (p q : List (List Int)) (hl : p.length = q.length) : addG q p = addG p q := by
  unfold addG
  rw [hl]
  exact List.map_congr_left fun i _ => sortL_comm _ _
theorem sumTo_add (p q : List (List Int)) (hl : p.length = q.length) : ∀ k, k ≤ p.length → sumTo (addG p q) k = sumTo p k + sumTo q k
  | 0, _ => rfl
  | k + 1, hk => by
    have ih := sumTo_add p q hl k (by omega)
    have e : ∀ r : List (List Int), sumTo r (k + 1) = sumTo r k + (r.getD k []).sum := fun _ => rfl
    rw [e, e, e, ih, addG_at p q k (by omega), sum_sortL, List.sum_append]
    omega
/-- where the props of a row land, all together -/
theorem propsR_sum (n i : Nat) (b : List Int) : ∃ c : Int, ((propsR n i b).map Prod.snd).sum = ((propsR n i b).map Prod.fst).sum + (nz b).sum - (n : Int) * c := by
  unfold propsR
  induction nz b with
  | nil => exact ⟨0, by simp⟩
  | cons x t ih =>
    obtain ⟨c, hc⟩ := ih
    refine ⟨c + ((i : Int) + x) / n, ?_⟩
    have e := Int.emod_add_mul_ediv ((i : Int) + x) n
    simp only [List.map_cons, List.sum_cons, List.map_map] at hc ⊢
    rw [hc, Int.mul_add]
    omega
theorem propsTo_sum (p : List (List Int)) : ∀ k, ∃ c : Int, ((propsTo p k).map Prod.snd).sum = ((propsTo p k).map Prod.fst).sum + sumTo p k - (p.length : Int) * c
  | 0 => ⟨0, by simp [propsTo, sumTo]⟩
  | k + 1 => by
    obtain ⟨c, hc⟩ := propsTo_sum p k
    obtain ⟨d, hd⟩ := propsR_sum p.length k (p.getD k [])
    refine ⟨c + d, ?_⟩
    have e : sumTo p (k + 1) = sumTo p k + (p.getD k []).sum := rfl
    rw [propsTo_succ, List.map_append, List.map_append, List.sum_append, List.sum_append, hc, hd, sum_nz, Int.mul_add, e]
    omega
/-- the sum of all throws is the number of props times the period -/
theorem sum_props {p : List (List Int)} (h : okM p = true) : sumTo p p.length = propsQ p * (p.length : Int) := by
  obtain ⟨c, hc⟩ := propsTo_sum p p.length
  have hs := shapeL_num (okM_shape h)
  have hb : (thrownL p).Perm (landL p) := by
    unfold okM at h
    rw [Bool.and_eq_true] at h
    exact (balance_iff hs.1).1 h.2
  have hp := permSum hb
  unfold thrownL landL at hp
  have hq : sumTo p p.length = (p.length : Int) * c := by omega
  unfold propsQ
  rw [if_pos h, hq, Int.mul_ediv_cancel_left _ (by omega), Int.mul_comm]
theorem sumTo_okay {p : List (List Int)} (h : okM p = true) : ∀ k, k ≤ p.length → 0 ≤ sumTo p k ∧ sumTo p k ≤ 60 * k
  | 0, _ => by simp [sumTo]
  | k + 1, hk => by
    have h1 := sumTo_okay h k (by omega)
    have hr := shapeL_at (okM_shape h) k (by omega)
    have h2 := rowOk_num hr
    have h3 := sum_take_row (b := p.getD k []) rfl (fun j hj => (okAtB_parts (rowOk_at hr j hj)).1) _ (Nat.le_refl _)
    rw [List.take_length] at h3
    have e : sumTo p (k + 1) = sumTo p k + (p.getD k []).sum := rfl
    rw [e]
    omega
theorem propsQ_bound {p : List (List Int)} (h : okM p = true) : 0 ≤ propsQ p ∧ propsQ p ≤ 60 := by
  have h1 := sumTo_okay h p.length (Nat.le_refl _)
  have h2 := sum_props h
  have hs := shapeL_num (okM_shape h)
  rw [h2] at h1
  constructor
  · refine Int.not_lt.1 fun hc => ?_
    have := Int.mul_lt_mul_of_pos_right hc (show (0 : Int) < p.length by omega)
    omega
  · refine Int.not_lt.1 fun hc => ?_
    have := Int.mul_lt_mul_of_pos_right hc (show (0 : Int) < p.length by omega)
    omega
theorem props_add {p q : List (List Int)} (hp : okM p = true) (hq : okM q = true) (hl : p.length = q.length) (ha : okM (addG p q) = true) : propsQ (addG p q) = propsQ p + propsQ q := by
  have h1 := sum_props hp
  have h2 := sum_props hq
  have h3 := sum_props ha
  have hs := shapeL_num (okM_shape hp)
  rw [addG_len, sumTo_add p q hl p.length (Nat.le_refl _)] at h3
  rw [← hl] at h2
  rw [h1, h2, ← Int.add_mul] at h3
  exact (Int.eq_of_mul_eq_mul_right (by omega) h3).symm
/-- as many land as are thrown -/
theorem lands_thrown {p : List (List Int)} (h : okM p = true) (i : Nat) (hi : i < p.length) :
    (landsR p).getD i 0 = if (p.getD i []).getD 0 0 = 0 then 0 else ((p.getD i []).length : Int) := by
  have hs := okM_shape h
  have hr := shapeL_at hs i hi
  have h1 := rowOk_num hr
  have hp := okAtB_parts (rowOk_at hr 0 (by omega))
  have hb : (landL p).count (i : Int) = (thrownL p).count (i : Int) := by
    unfold okM at h
    rw [Bool.and_eq_true] at h
    have := List.all_eq_true.1 h.2 i (by simp [hi])
    exact beq_iff_eq.1 this
  have hc := thrownL_count i hi
  have hz := rowOk_nz hr
  have hl : (landsR p).getD i 0 = ((landL p).count (i : Int) : Int) := by
    unfold landsR landsL
    rw [if_pos h]
    exact landsN_at _ _ i hi
  rw [hl, hb, hc, hz]
  by_cases h0 : (p.getD i []).getD 0 0 = 0
  · rw [if_pos h0, if_pos ⟨by have := hp.2.1 h0; omega, h0⟩]; rfl
  · rw [if_neg h0, if_neg fun hh => h0 hh.2]
theorem addM_back {p q : List (List Int)} (h : addMC p q = 0) : okM p = true ∧ okM q = true ∧ p.length = q.length ∧ okM (addG p q) = true ∧ addMR p q = addG p q ∧ addMR q p = addG p q ∧ addMC q p = 0 := by
  by_cases hp : okM p = true
  · by_cases hq : okM q = true
    · by_cases hl : p.length = q.length
      · have e := (addM_good hp hq hl).2
        rw [e] at h
        have ha : okM (addG p q) = true := by
          unfold addK at h
          by_cases ha : okM (addG p q) = true
          · exact ha
          · rw [if_neg ha] at h; exact absurd h (by decide)
        have hc := addG_comm p q hl
        refine ⟨hp, hq, hl, ha, ?_, ?_, ?_⟩
        · rw [(addM_good hp hq hl).1]; unfold addR; rw [if_pos ha]
        · rw [(addM_good hq hp hl.symm).1]; unfold addR; rw [hc, if_pos ha]
        · rw [(addM_good hq hp hl.symm).2]; unfold addK; rw [hc, if_pos ha]
      · rw [(addM_len hp hq hl).2] at h; exact absurd h (by decide)
    · rw [(addM_bad2 (p := p) (by simpa using hq)).2] at h; exact absurd h (by decide)
  · rw [(addM_bad1 (q := q) (by simpa using hp)).2] at h; exact absurd h (by decide)
end Go.Proofs.Ytgjmhihomklooaa

/- Multiplex: AddMulti, the program's. Conditions: beats of at most 10^7 throws. -/
namespace Go.Proofs.Ytgjmhihomklooaa
open Go.RowKit
set_option linter.unusedSimpArgs false
set_option linter.unusedVariables false

set_option maxRecDepth 10000 in
theorem addMulti_impl1 (v u : Value) (E E' : TypeId) (B C B' C' : Nat) (p q : List (List Int)) (w : World) (h : Grid E w B C (v) p) (h' : Grid E' w B' C' (u) q) (hs : Small p) (hs2 : Small q) (hok : okM p = false) :
    Calls Try.prog 12 #[.agg #[v], .agg #[u]] w fun e w' => e = .returned (.tuple #[.agg #[.slice none 0 0], .int .i64 1]) ∧ Below w.heap.size w w' := by
  have HO := fun W (hW : Below w.heap.size w W) => validMulti_impl (v) E B C p W (h.below hW) hs
  have HO' := fun W (hW : Below w.heap.size w W) => validMulti_impl (u) E' B' C' q W (h'.below hW) hs2
  rw [hok] at HO
  have hp0 := fun R => (three_start w (v) (u) 26 R).1
  have hp1 := fun R => (three_start w (v) (u) 26 R).2
  clear h h' hok
  go_enter Try.func12, Try.ntmps12
  go_wp2_with fail
  refine (HO _ (below_alM (below_alM (below_alM (Below.refl _ _) _) _) _)).mono ?_
  rintro e w1 ⟨rfl, b1⟩
  obtain ⟨c1, d1, v1, s1, b1⟩ := three_cells w w1 _ _ _ b1
  clear HO hp0 hp1
  obtain ⟨c9, f9⟩ := v1
  have hres : ∀ y : Value, (w1.setCell ⟨w.heap.size + 2, 0, none⟩ y).cell? ⟨w.heap.size + 2, 0, none⟩ = some y := fun y => World.cell?_setCell_same _ _ _ (u := .slice none 0 0) c9
  go_wp2
  refine bodyPost_ret (v := .tuple #[.agg #[.slice none 0 0], .int .i64 1]) (by simp [results, Try.results12, go_sem, hres]) rfl ?_
  exact ⟨rfl, b1.setCell (p := ⟨w.heap.size + 2, 0, none⟩) (by show w.heap.size ≤ w.heap.size + 2; omega) _⟩

set_option maxRecDepth 10000 in
theorem addMulti_impl2 (v u : Value) (E E' : TypeId) (B C B' C' : Nat) (p q : List (List Int)) (w : World) (h : Grid E w B C (v) p) (h' : Grid E' w B' C' (u) q) (hs : Small p) (hs2 : Small q) (hok : okM p = true) (hok2 : okM q = false) :
    Calls Try.prog 12 #[.agg #[v], .agg #[u]] w fun e w' => e = .returned (.tuple #[.agg #[.slice none 0 0], .int .i64 1]) ∧ Below w.heap.size w w' := by
  have HO := fun W (hW : Below w.heap.size w W) => validMulti_impl (v) E B C p W (h.below hW) hs
  have HO' := fun W (hW : Below w.heap.size w W) => validMulti_impl (u) E' B' C' q W (h'.below hW) hs2
  rw [hok] at HO
  rw [hok2] at HO'
  have hp0 := fun R => (three_start w (v) (u) 26 R).1
  have hp1 := fun R => (three_start w (v) (u) 26 R).2
  clear h h' hok
  go_enter Try.func12, Try.ntmps12
  go_wp2_with fail
  refine (HO _ (below_alM (below_alM (below_alM (Below.refl _ _) _) _) _)).mono ?_
  rintro e w1 ⟨rfl, b1⟩
  obtain ⟨c1, d1, v1, s1, b1⟩ := three_cells w w1 _ _ _ b1
  clear HO hp0 hp1
  go_wp2_with fail
  refine (HO' _ b1).mono ?_
  rintro e w2 ⟨rfl, b2⟩
  have s2 := b2.size
  have c2x := (b2.cell (p := ⟨w.heap.size, 0, none⟩) (by show w.heap.size < _; omega)).trans c1
  have d2x := (b2.cell (p := ⟨w.heap.size + 1, 0, none⟩) (by show w.heap.size + 1 < _; omega)).trans d1
  have v2 := v1.below b2
  replace b2 := b1.trans (b2.mono b1.size)
  clear HO' v1 b1 c1 d1
  obtain ⟨c9, f9⟩ := v2
  have hres : ∀ y : Value, (w2.setCell ⟨w.heap.size + 2, 0, none⟩ y).cell? ⟨w.heap.size + 2, 0, none⟩ = some y := fun y => World.cell?_setCell_same _ _ _ (u := .slice none 0 0) c9
  go_wp2
  refine bodyPost_ret (v := .tuple #[.agg #[.slice none 0 0], .int .i64 1]) (by simp [results, Try.results12, go_sem, hres]) rfl ?_
  exact ⟨rfl, b2.setCell (p := ⟨w.heap.size + 2, 0, none⟩) (by show w.heap.size ≤ w.heap.size + 2; omega) _⟩

set_option maxRecDepth 10000 in
theorem addMulti_impl3 (a a2 : Option Addr) (n c m c2 : Nat) (E E' : TypeId) (B C B' C' : Nat) (p q : List (List Int)) (w : World) (h : Grid E w B C (.slice a n c) p) (h' : Grid E' w B' C' (.slice a2 m c2) q) (hs : Small p) (hs2 : Small q) (hok : okM p = true) (hok2 : okM q = true) (hl : p.length ≠ q.length) (hn : n = p.length) (hm : m = q.length) (hn9 : n ≤ 9223372036854775807) (hm9 : m ≤ 9223372036854775807) :
    Calls Try.prog 12 #[.agg #[.slice a n c], .agg #[.slice a2 m c2]] w fun e w' => e = .returned (.tuple #[.agg #[.slice none 0 0], .int .i64 6]) ∧ Below w.heap.size w w' := by
  have HO := fun W (hW : Below w.heap.size w W) => validMulti_impl (.slice a n c) E B C p W (h.below hW) hs
  have HO' := fun W (hW : Below w.heap.size w W) => validMulti_impl (.slice a2 m c2) E' B' C' q W (h'.below hW) hs2
  rw [hok] at HO
  rw [hok2] at HO'
  have hne : ((n : Int) != (m : Int)) = true := by simp; omega
  clear hl hn hm
  have hp0 := fun R => (three_start w (.slice a n c) (.slice a2 m c2) 26 R).1
  have hp1 := fun R => (three_start w (.slice a n c) (.slice a2 m c2) 26 R).2
  clear h h' hok
  go_enter Try.func12, Try.ntmps12
  go_wp2_with fail
  refine (HO _ (below_alM (below_alM (below_alM (Below.refl _ _) _) _) _)).mono ?_
  rintro e w1 ⟨rfl, b1⟩
  obtain ⟨c1, d1, v1, s1, b1⟩ := three_cells w w1 _ _ _ b1
  clear HO hp0 hp1
  go_wp2_with fail
  refine (HO' _ b1).mono ?_
  rintro e w2 ⟨rfl, b2⟩
  have s2 := b2.size
  have c2x := (b2.cell (p := ⟨w.heap.size, 0, none⟩) (by show w.heap.size < _; omega)).trans c1
  have d2x := (b2.cell (p := ⟨w.heap.size + 1, 0, none⟩) (by show w.heap.size + 1 < _; omega)).trans d1
  have v2 := v1.below b2
  replace b2 := b1.trans (b2.mono b1.size)
  clear HO' v1 b1 c1 d1
  obtain ⟨c9, f9⟩ := v2
  have hres : ∀ y : Value, (w2.setCell ⟨w.heap.size + 2, 0, none⟩ y).cell? ⟨w.heap.size + 2, 0, none⟩ = some y := fun y => World.cell?_setCell_same _ _ _ (u := .slice none 0 0) c9
  go_wp2
  refine bodyPost_ret (v := .tuple #[.agg #[.slice none 0 0], .int .i64 6]) (by simp [results, Try.results12, go_sem, hres]) rfl ?_
  exact ⟨rfl, b2.setCell (p := ⟨w.heap.size + 2, 0, none⟩) (by show w.heap.size ≤ w.heap.size + 2; omega) _⟩
end Go.Proofs.Ytgjmhihomklooaa

/- Multiplex: AddMulti, the program's, for any two patterns. Conditions: beats of at most 10^7 throws. -/
namespace Go.Proofs.Ytgjmhihomklooaa
open Go.RowKit

theorem addMulti_impl (v : Value) (E : TypeId) (B C : Nat) (p : List (List Int)) (u : Value) (E' : TypeId) (B' C' : Nat) (q : List (List Int)) (w : World) (h : Grid E w B C v p) (h' : Grid E' w B' C' u q) (hs : Small p) (hs2 : Small q) :
    Calls Try.prog 12 #[.agg #[v], .agg #[u]] w fun e w' => ∃ x y z, e = .returned (.tuple #[.agg #[.slice x y z], .int .i64 (addMC p q)]) ∧ Grid 32 w' w.heap.size w'.heap.size (.slice x y z) (addMR p q) ∧ Below w.heap.size w w' := by
  cases hok : okM p with
  | false =>
    obtain ⟨e1, e2⟩ := addM_bad1 (q := q) hok
    rw [e1, e2]
    exact (addMulti_impl1 v u E E' B C B' C' p q w h h' hs hs2 hok).mono fun e w' ⟨h1, h2⟩ => ⟨_, _, _, h1, Grid.nil _ _ _ _, h2⟩
  | true =>
    cases hok2 : okM q with
    | false =>
      obtain ⟨e1, e2⟩ := addM_bad2 (p := p) hok2
      rw [e1, e2]
      exact (addMulti_impl2 v u E E' B C B' C' p q w h h' hs hs2 hok hok2).mono fun e w' ⟨h1, h2⟩ => ⟨_, _, _, h1, Grid.nil _ _ _ _, h2⟩
    | true =>
      have n1 := (shapeL_num (okM_shape hok)).1
      have n2 := (shapeL_num (okM_shape hok2)).1
      obtain ⟨g, cap, rfl, _, hg, _, hm⟩ := h.shape.resolve_left fun e => by rw [e.2] at n1; simp at n1
      obtain ⟨g', cap', rfl, _, hg', _, hm'⟩ := h'.shape.resolve_left fun e => by rw [e.2] at n2; simp at n2
      by_cases hl : p.length = q.length
      · obtain ⟨e1, e2⟩ := addM_good hok hok2 hl
        rw [e1, e2]
        rw [← hl] at h' ⊢
        exact addMulti_row g cap g' cap' p.length E E' B C B' C' p q w h h' rfl hl hg hg' hs hs2 hok hok2
      · obtain ⟨e1, e2⟩ := addM_len hok hok2 hl
        rw [e1, e2]
        exact (addMulti_impl3 _ _ _ _ _ _ E E' B C B' C' p q w h h' hs hs2 hok hok2 hl rfl rfl h.len h'.len).mono fun e w' ⟨h1, h2⟩ => ⟨_, _, _, h1, Grid.nil _ _ _ _, h2⟩
end Go.Proofs.Ytgjmhihomklooaa

/- Multiplex: SameMulti, the model's and the program's, answers whether two patterns are equal. No conditions. -/
namespace Go.Proofs.Ytgjmhihomklooaa
open Go.RowKit
set_option linter.unusedSimpArgs false
set_option linter.unusedVariables false

def sameG (p q : List (List Int)) : Bool := decide (p = q)
theorem rows_ext {a b : List (List Int)} (hl : a.length = b.length) (h : ∀ i, i < a.length → a.getD i [] = b.getD i []) : a = b := by
  apply List.ext_getElem hl
  intro i h1 h2
  have := h i h1
  simpa [h1, h2] using this
theorem sameG_bad {p q : List (List Int)} (i : Nat) (h : p.getD i [] ≠ q.getD i []) : sameG p q = false := by
  unfold sameG
  rw [decide_eq_false_iff_not]
  rintro rfl
  exact h rfl
theorem sameG_good {p q : List (List Int)} (hl : p.length = q.length) (h : ∀ i, i < p.length → p.getD i [] = q.getD i []) : sameG p q = true := decide_eq_true (rows_ext hl h)
theorem sameG_len {p q : List (List Int)} (hl : p.length ≠ q.length) : sameG p q = false := by
  unfold sameG
  rw [decide_eq_false_iff_not]
  rintro rfl
  exact hl rfl

theorem Grid.open {E : TypeId} {w : World} {B C : Nat} {v : Value} {pss : List (List Int)} (h : Grid E w B C v pss) : ∃ a c, v = .slice a pss.length c ∧ (pss.length = 0 ∨ ∃ g, a = some ⟨g, 0, none⟩ ∧ g < w.heap.size ∧ ∀ i, i < pss.length → ∃ u, w.cell? ⟨g, i, none⟩ = some u ∧ Ints w B u (pss.getD i [])) := by
  rcases h.shape with ⟨rfl, rfl⟩ | ⟨g, cap, rfl, _, hg, _, _⟩
  · exact ⟨_, _, rfl, .inl rfl⟩
  · refine ⟨_, _, rfl, .inr ⟨g, rfl, hg, fun i hi => ?_⟩⟩
    obtain ⟨u, h1, h2, _⟩ := h.row i hi
    exact ⟨u, h1, h2⟩

set_option maxRecDepth 10000 in
theorem sameMulti_specL (a b : Option Addr) (n m c c' : Nat) (w : World) (hm : n ≤ 9223372036854775807) (hm' : m ≤ 9223372036854775807) (hne : n ≠ m) :
    Calls Try.prog 19 #[.agg #[.slice a n c], .agg #[.slice b m c']] w fun e w' => e = .returned (.bool false) ∧ Below w.heap.size w w' := by
  have hl' : ((n : Int) != (m : Int)) = true := by simp; omega
  go_enter Try.func19, Try.ntmps19
  go_wp2
  go_ret
  exact ⟨rfl, below_alM (below_alM (Below.refl _ _) _) _⟩

set_option maxRecDepth 10000 in
theorem sameMulti_spec0 (a b : Option Addr) (c c' : Nat) (w : World) :
    Calls Try.prog 19 #[.agg #[.slice a 0 c], .agg #[.slice b 0 c']] w fun e w' => e = .returned (.bool true) ∧ Below w.heap.size w w' := by
  go_enter Try.func19, Try.ntmps19
  go_wp2
  refine wp_loop_rounds 1 ?_
  rw [rounds_succ]
  go_wp2
  go_ret
  exact ⟨rfl, below_alM (below_alM (Below.refl _ _) _) _⟩
set_option maxRecDepth 10000 in
set_option maxHeartbeats 1000000 in
theorem sameMulti_specR (g g' n c c' B B' : Nat) (pss qss : List (List Int)) (w : World) (hm : n ≤ 9223372036854775807) (hg : g < w.heap.size) (hg' : g' < w.heap.size)
    (hbad : ∀ i, i < n → pss.getD i [] ≠ qss.getD i [] → sameG pss qss = false) (hgood : (∀ i, i < n → pss.getD i [] = qss.getD i []) → sameG pss qss = true)
    (h1 : ∀ i, i < n → ∃ u, w.cell? ⟨g, i, none⟩ = some u ∧ Ints w B u (pss.getD i [])) (h2 : ∀ i, i < n → ∃ u, w.cell? ⟨g', i, none⟩ = some u ∧ Ints w B' u (qss.getD i [])) :
    Calls Try.prog 19 #[.agg #[.slice (some ⟨g, 0, none⟩) n c], .agg #[.slice (some ⟨g', 0, none⟩) n c']] w fun e w' => e = .returned (.bool (sameG pss qss)) ∧ Below w.heap.size w w' := by
  have hnn : ((n : Int) != (n : Int)) = false := by simp
  have H1 := Lib.hid h1
  have H2 := Lib.hid h2
  have HBAD := Lib.hid hbad
  have HGOOD := Lib.hid hgood
  clear h1 h2 hbad hgood
  obtain ⟨O1, hO1⟩ : ∃ o, o = Obj.cells #[.slice (some ⟨g, 0, none⟩) n c] 26 := ⟨_, rfl⟩
  obtain ⟨O2, hO2⟩ : ∃ o, o = Obj.cells #[.slice (some ⟨g', 0, none⟩) n c'] 26 := ⟨_, rfl⟩
  have hB0 : Below w.heap.size w ((w.alloc O1).alloc O2) := below_alM (below_alM (Below.refl _ _) _) _
  have hs0 : w.heap.size + 1 < ((w.alloc O1).alloc O2).heap.size := by simp
  have k1 : ((w.alloc O1).alloc O2).cell? ⟨w.heap.size, 0, none⟩ = some (.slice (some ⟨g, 0, none⟩) n c) := by rw [hO1]; simp
  have k2 : ((w.alloc O1).alloc O2).cell? ⟨w.heap.size + 1, 0, none⟩ = some (.slice (some ⟨g', 0, none⟩) n c') := by rw [hO2]; simp
  go_enter Try.func19, Try.ntmps19
  go_wp2
  rw [← hO1, ← hO2]
  generalize (w.alloc O1).alloc O2 = w0 at *
  clear hO1 hO2
  go_loopw [5] (fun i wr => ∃ k : Nat, k ≤ n ∧ i = .int .i64 k ∧ Hid (∀ j, j < k → pss.getD j [] = qss.getD j []) ∧ Below w0.heap.size w0 wr) (fun i _ => n - (intOf i).toNat)
  case atStart => exact ⟨0, Nat.zero_le _, rfl, fun j hj => absurd hj (Nat.not_lt_zero _), Below.refl _ _⟩
  case round =>
    obtain ⟨i, hi, rfl, hall, hb⟩ := hrel
    have hbw : Below w.heap.size w wr := hB0.trans (hb.mono hB0.size)
    have e1 : wr.cell? ⟨w.heap.size, 0, none⟩ = some (.slice (some ⟨g, 0, none⟩) n c) := (hb.cell (p := ⟨w.heap.size, 0, none⟩) (by show w.heap.size < _; omega)).trans k1
    have e2 : wr.cell? ⟨w.heap.size + 1, 0, none⟩ = some (.slice (some ⟨g', 0, none⟩) n c') := (hb.cell (p := ⟨w.heap.size + 1, 0, none⟩) (by show w.heap.size + 1 < _; omega)).trans k2
    by_cases hlt : i < n
    · obtain ⟨u, hu, i1⟩ := H1.out i hlt
      obtain ⟨u', hu', i2⟩ := H2.out i hlt
      have e3 : wr.cell? ⟨g, i, none⟩ = some u := (hbw.cell (p := ⟨g, i, none⟩) hg).trans hu
      have e4 : wr.cell? ⟨g', i, none⟩ = some u' := (hbw.cell (p := ⟨g', i, none⟩) hg').trans hu'
      have hr : sameL (pss.getD i []) (qss.getD i []) = true → ∀ j, j < i + 1 → pss.getD j [] = qss.getD j [] := fun h j hj => by
        by_cases e : j = i
        · subst e; simpa [sameL] using h
        · exact hall.out j (by omega)
      have hr2 : sameL (pss.getD i []) (qss.getD i []) = false → sameG pss qss = false := fun h => HBAD.out i hlt (by simpa [sameL] using h)
      have HR := Lib.hid hr
      have HR2 := Lib.hid hr2
      have HC : ∀ W, Below wr.heap.size wr W → Calls Try.prog 71 #[u, u'] W fun e w' => e = .returned (.bool (sameL (pss.getD i []) (qss.getD i []))) ∧ Below wr.heap.size wr w' ∧ w'.cell? ⟨w.heap.size, 0, none⟩ = some (.slice (some ⟨g, 0, none⟩) n c) ∧ w'.cell? ⟨w.heap.size + 1, 0, none⟩ = some (.slice (some ⟨g', 0, none⟩) n c') ∧ w'.cell? ⟨g, i, none⟩ = some u ∧ w'.cell? ⟨g', i, none⟩ = some u' := fun W hW => by
        refine (l00Same_any u u' _ _ _ _ W (i1.below (hbw.trans (hW.mono hbw.size))) (i2.below (hbw.trans (hW.mono hbw.size)))).mono ?_
        rintro e w1 ⟨rfl, hb1⟩
        have hb2 := hW.trans (hb1.mono hW.size)
        have := hb.size
        have := hbw.size
        exact ⟨rfl, hb2, (hb2.cell (p := ⟨w.heap.size, 0, none⟩) (by show w.heap.size < _; omega)).trans e1, (hb2.cell (p := ⟨w.heap.size + 1, 0, none⟩) (by show w.heap.size + 1 < _; omega)).trans e2, (hb2.cell (p := ⟨g, i, none⟩) (by show g < _; omega)).trans e3, (hb2.cell (p := ⟨g', i, none⟩) (by show g' < _; omega)).trans e4⟩
      generalize sameL (pss.getD i []) (qss.getD i []) = r at *
      have HCC := Lib.hid HC
      clear HC hr hr2 hall i1 i2 hu hu' k1 k2
      cases r with
      | true =>
        have HN := Lib.hid (HR.out rfl)
        clear HR HR2
        go_wp2
        go_region_held3 (fun W => Below wr.heap.size wr W ∧ W.cell? ⟨w.heap.size, 0, none⟩ = some (.slice (some ⟨g, 0, none⟩) n c) ∧ W.cell? ⟨w.heap.size + 1, 0, none⟩ = some (.slice (some ⟨g', 0, none⟩) n c') ∧ W.cell? ⟨g, i, none⟩ = some u ∧ W.cell? ⟨g', i, none⟩ = some u') (first | exact ⟨by assumption, by assumption, by assumption, by assumption, by assumption⟩ | exact ⟨Below.drew (by assumption), by assumption, by assumption, by assumption, by assumption⟩ | exact ⟨Below.refl _ _, by assumption, by assumption, by assumption, by assumption⟩ | exact ⟨Below.drew (Below.refl _ _), by assumption, by assumption, by assumption, by assumption⟩) (first | (go_at_call 71; (with_reducible refine (HCC.out _ ?_).mono ?_); (first | assumption | exact Below.drew (by assumption) | exact Below.refl _ _ | exact Below.drew (Below.refl _ _)); rintro e w1 ⟨rfl, hb1, hx1, hy1, hz1, ht1⟩))
        go_wp2
        go_roundw
        case rel => exact ⟨i + 1, by omega, by go_num, HN, hb.trans (hb1.mono hb.size)⟩
        case measure => simp [intOf]; omega
      | false =>
        have HN := Lib.hid (HR2.out rfl)
        clear HR HR2
        go_wp2
        go_region_held3 (fun W => Below wr.heap.size wr W ∧ W.cell? ⟨w.heap.size, 0, none⟩ = some (.slice (some ⟨g, 0, none⟩) n c) ∧ W.cell? ⟨w.heap.size + 1, 0, none⟩ = some (.slice (some ⟨g', 0, none⟩) n c') ∧ W.cell? ⟨g, i, none⟩ = some u ∧ W.cell? ⟨g', i, none⟩ = some u') (first | exact ⟨by assumption, by assumption, by assumption, by assumption, by assumption⟩ | exact ⟨Below.drew (by assumption), by assumption, by assumption, by assumption, by assumption⟩ | exact ⟨Below.refl _ _, by assumption, by assumption, by assumption, by assumption⟩ | exact ⟨Below.drew (Below.refl _ _), by assumption, by assumption, by assumption, by assumption⟩) (first | (go_at_call 71; (with_reducible refine (HCC.out _ ?_).mono ?_); (first | assumption | exact Below.drew (by assumption) | exact Below.refl _ _ | exact Below.drew (Below.refl _ _)); rintro e w1 ⟨rfl, hb1, hx1, hy1, hz1, ht1⟩))
        go_wp2
        go_ret
        exact ⟨by rw [HN.out]; rfl, hbw.trans (hb1.mono hbw.size)⟩
    · obtain rfl : i = n := by omega
      have HN := Lib.hid (HGOOD.out hall.out)
      clear k1 k2
      go_wp2
      go_ret
      exact ⟨by rw [HN.out]; rfl, hbw⟩

theorem sameMulti_spec (v : Value) (E : TypeId) (B C : Nat) (pss : List (List Int)) (u : Value) (E' : TypeId) (B' C' : Nat) (qss : List (List Int)) (w : World) (h : Grid E w B C v pss) (h' : Grid E' w B' C' u qss) :
    Calls Try.prog 19 #[.agg #[v], .agg #[u]] w fun e w' => e = .returned (.bool (sameG pss qss)) ∧ Below w.heap.size w w' := by
  have hm := h.len
  have hm' := h'.len
  obtain ⟨a, c, rfl, ho⟩ := h.open
  obtain ⟨a', c', rfl, ho'⟩ := h'.open
  by_cases hl : pss.length = qss.length
  · rcases ho with h0 | ⟨g, rfl, hg, hr⟩
    · have e : sameG pss qss = true := sameG_good hl fun i hi => by omega
      rw [e, ← hl, h0]
      exact sameMulti_spec0 _ _ _ _ _
    · rcases ho' with h0 | ⟨g', rfl, hg', hr'⟩
      · have e : sameG pss qss = true := sameG_good hl fun i hi => by omega
        rw [e, hl, h0]
        exact sameMulti_spec0 _ _ _ _ _
      · rw [← hl]
        exact sameMulti_specR g g' _ c c' B B' pss qss w hm hg hg' (fun i _ hne => sameG_bad i hne) (fun hh => sameG_good hl hh) hr (fun i hi => hr' i (by omega))
  · rw [sameG_len hl]
    exact sameMulti_specL _ _ _ _ _ _ w hm hm' hl

/-! ### the program's -/
set_option maxRecDepth 10000 in
theorem equalFunc_len (a b : Option Addr) (n m c c' : Nat) (w : World) (hm : n ≤ 9223372036854775807) (hm' : m ≤ 9223372036854775807) (hne : n ≠ m) :
    Calls Try.prog 146 #[.slice a n c, .slice b m c', .func (.func 106) #[] #[]] w fun e w' => e = .returned (.bool false) ∧ Below w.heap.size w w' := by
  have hl' : ((n : Int) != (m : Int)) = true := by simp; omega
  go_enter Try.func146, Try.ntmps146
  go_wp2
  go_ret
  exact ⟨rfl, Below.refl _ _⟩

set_option maxRecDepth 10000 in
theorem equalFunc_zero (a b : Option Addr) (c c' : Nat) (w : World) :
    Calls Try.prog 146 #[.slice a 0 c, .slice b 0 c', .func (.func 106) #[] #[]] w fun e w' => e = .returned (.bool true) ∧ Below w.heap.size w w' := by
  go_enter Try.func146, Try.ntmps146
  go_wp2
  refine wp_loop_rounds 1 ?_
  rw [rounds_succ]
  go_wp2
  go_ret
  exact ⟨rfl, Below.refl _ _⟩

set_option maxRecDepth 10000 in
set_option maxHeartbeats 1000000 in
theorem equalFunc_row (g g' n c c' B B' : Nat) (pss qss : List (List Int)) (w : World) (hm : n ≤ 9223372036854775807) (hg : g < w.heap.size) (hg' : g' < w.heap.size)
    (hbad : ∀ i, i < n → pss.getD i [] ≠ qss.getD i [] → sameG pss qss = false) (hgood : (∀ i, i < n → pss.getD i [] = qss.getD i []) → sameG pss qss = true)
    (h1 : ∀ i, i < n → ∃ u, w.cell? ⟨g, i, none⟩ = some u ∧ Ints w B u (pss.getD i [])) (h2 : ∀ i, i < n → ∃ u, w.cell? ⟨g', i, none⟩ = some u ∧ Ints w B' u (qss.getD i [])) :
    Calls Try.prog 146 #[.slice (some ⟨g, 0, none⟩) n c, .slice (some ⟨g', 0, none⟩) n c', .func (.func 106) #[] #[]] w fun e w' => e = .returned (.bool (sameG pss qss)) ∧ Below w.heap.size w w' := by
  have hnn : ((n : Int) != (n : Int)) = false := by simp
  have H1 := Lib.hid h1
  have H2 := Lib.hid h2
  have HBAD := Lib.hid hbad
  have HGOOD := Lib.hid hgood
  clear h1 h2 hbad hgood
  go_enter Try.func146, Try.ntmps146
  go_wp2
  go_loopw [17] (fun i wr => ∃ k : Nat, k ≤ n ∧ i = .int .i64 k ∧ Hid (∀ j, j < k → pss.getD j [] = qss.getD j []) ∧ Below w.heap.size w wr) (fun i _ => n - (intOf i).toNat)
  case atStart => exact ⟨0, Nat.zero_le _, rfl, fun j hj => absurd hj (Nat.not_lt_zero _), Below.refl _ _⟩
  case round =>
    obtain ⟨i, hi, rfl, hall, hb⟩ := hrel
    by_cases hlt : i < n
    · obtain ⟨u, hu, i1⟩ := H1.out i hlt
      obtain ⟨u', hu', i2⟩ := H2.out i hlt
      have e3 : wr.cell? ⟨g, i, none⟩ = some u := (hb.cell (p := ⟨g, i, none⟩) hg).trans hu
      have e4 : wr.cell? ⟨g', i, none⟩ = some u' := (hb.cell (p := ⟨g', i, none⟩) hg').trans hu'
      have hr : sameL (pss.getD i []) (qss.getD i []) = true → ∀ j, j < i + 1 → pss.getD j [] = qss.getD j [] := fun h j hj => by
        by_cases e : j = i
        · subst e; simpa [sameL] using h
        · exact hall.out j (by omega)
      have hr2 : sameL (pss.getD i []) (qss.getD i []) = false → sameG pss qss = false := fun h => HBAD.out i hlt (by simpa [sameL] using h)
      have HR := Lib.hid hr
      have HR2 := Lib.hid hr2
      have HC := equalI64_any u u' _ _ _ _ wr (i1.below hb) (i2.below hb)
      generalize sameL (pss.getD i []) (qss.getD i []) = r at *
      clear hr hr2 hall i1 i2 hu hu'
      cases r with
      | true =>
        have HN := Lib.hid (HR.out rfl)
        clear HR HR2
        go_wp2_with fail
        refine HC.mono ?_
        rintro e w1 ⟨rfl, hb1⟩
        go_wp2
        go_roundw
        case rel => exact ⟨i + 1, by omega, by go_num, HN, hb.trans (hb1.mono hb.size)⟩
        case measure => simp [intOf]; omega
      | false =>
        have HN := Lib.hid (HR2.out rfl)
        clear HR HR2
        go_wp2_with fail
        refine HC.mono ?_
        rintro e w1 ⟨rfl, hb1⟩
        go_wp2
        go_ret
        exact ⟨by rw [HN.out]; rfl, hb.trans (hb1.mono hb.size)⟩
    · obtain rfl : i = n := by omega
      have HN := Lib.hid (HGOOD.out hall.out)
      go_wp2
      go_ret
      exact ⟨by rw [HN.out]; rfl, hb⟩

theorem equalFunc_any (v : Value) (E : TypeId) (B C : Nat) (pss : List (List Int)) (u : Value) (E' : TypeId) (B' C' : Nat) (qss : List (List Int)) (w : World) (h : Grid E w B C v pss) (h' : Grid E' w B' C' u qss) :
    Calls Try.prog 146 #[v, u, .func (.func 106) #[] #[]] w fun e w' => e = .returned (.bool (sameG pss qss)) ∧ Below w.heap.size w w' := by
  have hm := h.len
  have hm' := h'.len
  obtain ⟨a, c, rfl, ho⟩ := h.open
  obtain ⟨a', c', rfl, ho'⟩ := h'.open
  by_cases hl : pss.length = qss.length
  · rcases ho with h0 | ⟨g, rfl, hg, hr⟩
    · have e : sameG pss qss = true := sameG_good hl fun i hi => by omega
      rw [e, ← hl, h0]
      exact equalFunc_zero _ _ _ _ _
    · rcases ho' with h0 | ⟨g', rfl, hg', hr'⟩
      · have e : sameG pss qss = true := sameG_good hl fun i hi => by omega
        rw [e, hl, h0]
        exact equalFunc_zero _ _ _ _ _
      · rw [← hl]
        exact equalFunc_row g g' _ c c' B B' pss qss w hm hg hg' (fun i _ hne => sameG_bad i hne) (fun hh => sameG_good hl hh) hr (fun i hi => hr' i (by omega))
  · rw [sameG_len hl]
    exact equalFunc_len _ _ _ _ _ _ w hm hm' hl

set_option maxRecDepth 10000 in
theorem sameMulti_impl (v : Value) (E : TypeId) (B C : Nat) (pss : List (List Int)) (u : Value) (E' : TypeId) (B' C' : Nat) (qss : List (List Int)) (w : World) (h : Grid E w B C v pss) (h' : Grid E' w B' C' u qss) (_hs : Small pss) (_hs' : Small qss) :
    Calls Try.prog 107 #[.agg #[v], .agg #[u]] w fun e w' => e = .returned (.bool (sameG pss qss)) ∧ Below w.heap.size w w' := by
  have HL := fun W (hW : Below w.heap.size w W) => equalFunc_any v E B C pss u E' B' C' qss W (h.below hW) (h'.below hW)
  generalize sameG pss qss = r at *
  clear h h'
  go_enter Try.func107, Try.ntmps107
  go_wp2_with fail
  refine (HL _ (below_alM (below_alM (Below.refl _ _) _) _)).mono ?_
  rintro e w1 ⟨rfl, b1⟩
  replace b1 := (below_alM (below_alM (Below.refl w.heap.size w) _) _).trans (b1.mono (by simp; omega))
  go_wp2
  go_ret
  exact ⟨rfl, b1⟩
end Go.Proofs.Ytgjmhihomklooaa

/- Plain mathematics of synchronous patterns: throws of two hands, where they land, which lists are patterns, mirrors, slides. It imports no program. No conditions. -/
namespace Go.Proofs.Ytgjmhihomklooaa

/-- a throw of a hand: its value, and whether it crosses; the throws of both hands -/
abbrev Thr := Int × Bool
abbrev Syn := Thr × Thr
def t0 : Thr := (0, false)
def s0 : Syn := (t0, t0)

/-- can a hand make the throw? -/
def okT (t : Thr) : Bool := inB t.1 0 14 && decide (t.1 % 2 = 0) && (decide (0 < t.1) || !t.2)
theorem okT_iff {t : Thr} : okT t = true ↔ (0 ≤ t.1 ∧ t.1 ≤ 14) ∧ t.1 % 2 = 0 ∧ (0 < t.1 ∨ t.2 = false) := by
  simp [okT, inB, and_assoc]
/-- are these beats a list of beats? -/
def okSL (p : List Syn) : Bool := p.all (fun s => okT s.1 && okT s.2) && inB p.length 1 6

/-- all throws, by their numbers -/
def thrs (p : List Syn) : List Thr := p.flatMap fun s => [s.1, s.2]
theorem thrs_len : ∀ p : List Syn, (thrs p).length = 2 * p.length
  | [] => rfl
  | s :: p => by
    have := thrs_len p
    simp only [thrs, List.flatMap_cons, List.length_append, List.length_cons, List.length_nil] at this ⊢
    omega
theorem thrs_even : ∀ (p : List Syn) (i : Nat), i < p.length → (thrs p).getD (2 * i) t0 = (p.getD i s0).1
  | [], i, h => by simp at h
  | s :: p, 0, _ => rfl
  | s :: p, i + 1, h => by
    have := thrs_even p i (by simp at h; omega)
    rw [show 2 * (i + 1) = 2 * i + 1 + 1 by omega]
    exact this
theorem thrs_odd : ∀ (p : List Syn) (i : Nat), i < p.length → (thrs p).getD (2 * i + 1) t0 = (p.getD i s0).2
  | [], i, h => by simp at h
  | s :: p, 0, _ => rfl
  | s :: p, i + 1, h => by
    have := thrs_odd p i (by simp at h; omega)
    rw [show 2 * (i + 1) + 1 = 2 * i + 1 + 1 + 1 by omega]
    exact this
theorem thrs_take (p : List Syn) (i : Nat) (h : i < p.length) : thrs (p.take (i + 1)) = thrs (p.take i) ++ [(p.getD i s0).1, (p.getD i s0).2] := by
  rw [thrs, List.take_succ_eq_append_getElem h, List.flatMap_append]
  simp [thrs, h]
theorem thrs_append (p q : List Syn) : thrs (p ++ q) = thrs p ++ thrs q := by simp [thrs]

theorem okSL_len {p : List Syn} (h : okSL p = true) : 1 ≤ p.length ∧ p.length ≤ 6 := by
  simp [okSL, inB] at h; omega
theorem okSL_at {p : List Syn} (h : okSL p = true) (i : Nat) (hi : i < p.length) : okT (p.getD i s0).1 = true ∧ okT (p.getD i s0).2 = true := by
  simp only [okSL, Bool.and_eq_true, List.all_eq_true] at h
  have := h.1 (p.getD i s0) (by rw [List.getD_eq_getElem?_getD, List.getElem?_eq_getElem hi]; exact List.getElem_mem hi)
  exact this
theorem okSL_thr {p : List Syn} (h : okSL p = true) (k : Nat) (hk : k < 2 * p.length) : okT ((thrs p).getD k t0) = true := by
  have h2 := okSL_at h (k / 2) (by omega)
  rcases Nat.mod_two_eq_zero_or_one k with e | e
  · rw [show k = 2 * (k / 2) by omega, thrs_even p (k / 2) (by omega)]; exact h2.1
  · rw [show k = 2 * (k / 2) + 1 by omega, thrs_odd p (k / 2) (by omega)]; exact h2.2
theorem okSL_bad {p : List Syn} (i : Nat) (hi : i < p.length) (hb : (okT (p.getD i s0).1 && okT (p.getD i s0).2) = false) : okSL p = false := by
  have : p.all (fun s => okT s.1 && okT s.2) = false := by
    rw [List.all_eq_false]
    exact ⟨p.getD i s0, by rw [List.getD_eq_getElem?_getD, List.getElem?_eq_getElem hi]; exact List.getElem_mem hi, by rw [hb]; simp⟩
  simp [okSL, this]
theorem okSL_num {p : List Syn} (h : ¬ (1 ≤ p.length ∧ p.length ≤ 6)) : okSL p = false := by
  rw [okSL, inB_false (by omega), Bool.and_false]
theorem okSL_good {p : List Syn} (h1 : 1 ≤ p.length) (h2 : p.length ≤ 6) (h : ∀ i, i < p.length → okT (p.getD i s0).1 = true ∧ okT (p.getD i s0).2 = true) : okSL p = true := by
  rw [okSL, inB_true (by omega), Bool.and_true, List.all_eq_true]
  intro s hs
  obtain ⟨i, hi, rfl⟩ := List.getElem_of_mem hs
  have := h i hi
  rw [List.getD_eq_getElem?_getD, List.getElem?_eq_getElem hi] at this
  simpa using this

/-- the number of the other hand of an element -/
def oth (h : Int) : Int := if h % 2 = 0 then h + 1 else h - 1
/-- where the throw with a number lands -/
def lndS (p : List Syn) (k : Nat) : Int :=
  if ((thrs p).getD k t0).2 = true then oth (((k : Int) + ((thrs p).getD k t0).1) % (2 * (p.length : Int))) else ((k : Int) + ((thrs p).getD k t0).1) % (2 * (p.length : Int))
theorem lndS_plain {p : List Syn} {k : Nat} (h : ((thrs p).getD k t0).2 = false) : lndS p k = ((k : Int) + ((thrs p).getD k t0).1) % (2 * (p.length : Int)) := by rw [lndS, if_neg (by rw [h]; simp)]
theorem lndS_cross {p : List Syn} {k : Nat} (h : ((thrs p).getD k t0).2 = true) : lndS p k = oth (((k : Int) + ((thrs p).getD k t0).1) % (2 * (p.length : Int))) := by rw [lndS, if_pos h]
theorem oth_bound {h n : Int} (h0 : 0 ≤ h) (h1 : h < 2 * n) : 0 ≤ oth h ∧ oth h < 2 * n := by unfold oth; split <;> omega
theorem lndS_bound {p : List Syn} (h : okSL p = true) (k : Nat) : 0 ≤ lndS p k ∧ lndS p k < 2 * (p.length : Int) := by
  have hn := okSL_len h
  have e0 := Int.emod_nonneg ((k : Int) + ((thrs p).getD k t0).1) (show 2 * (p.length : Int) ≠ 0 by omega)
  have e1 := Int.emod_lt_of_pos ((k : Int) + ((thrs p).getD k t0).1) (show 0 < 2 * (p.length : Int) by omega)
  cases hc : ((thrs p).getD k t0).2 with
  | false => rw [lndS_plain hc]; exact ⟨e0, e1⟩
  | true => rw [lndS_cross hc]; exact oth_bound e0 e1

/-- a synchronous pattern -/
def okS (p : List Syn) : Bool := okSL p && (clash (lndS p) (2 * p.length)).isNone
theorem okS_list {p : List Syn} (h : okS p = true) : okSL p = true := by simp [okS] at h; exact h.1
/-- what SyncClash answers -/
def scA (p : List Syn) : Int := if okSL p then cl1 (clash (lndS p) (2 * p.length)) else 0
def scB (p : List Syn) : Int := if okSL p then cl2 (clash (lndS p) (2 * p.length)) else 0
def scC (p : List Syn) : Int := if okSL p then cl3 (clash (lndS p) (2 * p.length)) else 1
theorem sc_bad {p : List Syn} (h : okSL p = false) : scA p = 0 ∧ scB p = 0 ∧ scC p = 1 := by simp [scA, scB, scC, h]
theorem sc_good {p : List Syn} (h : okSL p = true) : scA p = cl1 (clash (lndS p) (2 * p.length)) ∧ scB p = cl2 (clash (lndS p) (2 * p.length)) ∧ scC p = cl3 (clash (lndS p) (2 * p.length)) := by simp [scA, scB, scC, h]
theorem scC_ok (p : List Syn) : (scC p == 0) = okS p := by
  cases h : okSL p with
  | false => simp [(sc_bad h).2.2, okS, h]
  | true =>
    rw [(sc_good h).2.2]
    cases hc : clash (lndS p) (2 * p.length) with
    | none => simp [okS, h, hc, cl3]
    | some x => simp [okS, h, hc, cl3]
/-- the code of a function of a synchronous pattern -/
def okSC (p : List Syn) : Int := if okS p then 0 else 1
theorem okSC_true {p : List Syn} (h : okS p = true) : okSC p = 0 := by rw [okSC, if_pos h]
theorem okSC_false {p : List Syn} (h : okS p = false) : okSC p = 1 := by rw [okSC, if_neg (by simp [h])]

/-- sums of throws -/
def sumT (l : List Thr) : Int := (l.map Prod.fst).sum
theorem sumT_take (l : List Thr) (k : Nat) (hk : k < l.length) : sumT (l.take (k + 1)) = sumT (l.take k) + (l.getD k t0).1 := by
  rw [sumT, sumT, List.take_succ_eq_append_getElem hk, List.map_append, List.sum_append]
  simp [hk]
theorem sumT_bound (l : List Thr) (h : ∀ k, k < l.length → 0 ≤ (l.getD k t0).1 ∧ (l.getD k t0).1 ≤ 14) (k : Nat) (hk : k ≤ l.length) : 0 ≤ sumT (l.take k) ∧ sumT (l.take k) ≤ 14 * k := by
  induction k with
  | zero => simp [sumT]
  | succ k ih =>
    have h1 := ih (by omega)
    have h2 := h k (by omega)
    rw [sumT_take l k (by omega)]
    omega
def crossT (l : List Thr) : Int := ((l.filter Prod.snd).length : Int)
theorem crossT_take (l : List Thr) (k : Nat) (hk : k < l.length) : crossT (l.take (k + 1)) = crossT (l.take k) + (if (l.getD k t0).2 then 1 else 0) := by
  rw [crossT, crossT, List.take_succ_eq_append_getElem hk, List.filter_append, List.length_append]
  cases hc : l[k].2 <;> simp [hk, hc]
theorem crossT_bound (l : List Thr) (k : Nat) (hk : k ≤ l.length) : 0 ≤ crossT (l.take k) ∧ crossT (l.take k) ≤ k := by
  have := List.length_filter_le Prod.snd (l.take k)
  rw [List.length_take] at this
  unfold crossT
  omega
def spropsA (p : List Syn) : Int := if okS p then sumT (thrs p) / (2 * (p.length : Int)) else 0
def scrossA (p : List Syn) : Int := if okS p then crossT (thrs p) else 0

/-- both hands exchanged -/
def mirS (p : List Syn) : List Syn := p.map fun s => (s.2, s.1)
theorem mirS_len (p : List Syn) : (mirS p).length = p.length := by simp [mirS]
theorem mirS_take (p : List Syn) (k : Nat) (hk : k < p.length) : (mirS p).take (k + 1) = (mirS p).take k ++ [((p.getD k s0).2, (p.getD k s0).1)] := by
  rw [List.take_succ_eq_append_getElem (by rw [mirS_len]; exact hk)]
  simp [mirS, hk]
def mirR (p : List Syn) : List Syn := if okS p then mirS p else []
def starC (p : List Syn) : Int := if okSL p then (if 6 < 2 * p.length then 5 else if okS (p ++ mirS p) then 0 else 9) else 1
def starR (p : List Syn) : List Syn := if okSL p = true ∧ ¬ 6 < 2 * p.length ∧ okS (p ++ mirS p) = true then p ++ mirS p else []

/-- the throw of a pattern for the throw with a number -/
def slid (t : Thr) (hand : Nat) : Int := if t.2 then (if hand = 0 then t.1 + 1 else t.1 - 1) else t.1
def slideL (p : List Syn) : List Int := (List.range (2 * p.length)).map fun k => slid ((thrs p).getD k t0) (k % 2)
theorem slideL_len (p : List Syn) : (slideL p).length = 2 * p.length := by simp [slideL]
theorem slideL_take (p : List Syn) (k : Nat) (hk : k < 2 * p.length) : (slideL p).take (k + 1) = (slideL p).take k ++ [slid ((thrs p).getD k t0) (k % 2)] := by
  rw [List.take_succ_eq_append_getElem (by rw [slideL_len]; exact hk)]
  simp [slideL]
def slideR (p : List Syn) : List Int := if okS p then slideL p else []
end Go.Proofs.Ytgjmhihomklooaa

/- The laws' own helpers on slices of synchronous beats: toSyncBeatS, eqSyncBeatS, markSyncBeatS, heldSyncBeatS, szSyncBeatS. Conditions: bounds on lengths. -/
namespace Go.Proofs.Ytgjmhihomklooaa
open Go.RowKit
set_option linter.unusedSimpArgs false
set_option linter.unusedVariables false

/-- a throw's cells, a beat's cells -/
def thrV (t : Thr) : List Value := [.int .i64 t.1, .bool t.2]
def synV (s : Syn) : List Value := [.int .i64 s.1.1, .bool s.1.2, .int .i64 s.2.1, .bool s.2.2]
theorem synV_len (s : Syn) : (synV s).length = 4 := rfl
theorem thrV_len (t : Thr) : (thrV t).length = 2 := rfl

set_option maxRecDepth 10000 in
theorem toSyncThrow_any (v : Int) (c : Bool) (w : World) :
    Calls Try.prog 138 #[.agg #[.int .i64 v, .bool c]] w fun e w' => e = .returned (.agg #[.int .i64 v, .bool c]) ∧ Below w.heap.size w w' := by
  go_enter Try.func138, Try.ntmps138
  go_wp2
  refine bodyPost_ret (v := .agg #[.int .i64 v, .bool c]) (by simp [results, Try.results138, go_sem]) rfl ?_
  exact ⟨rfl, (((Below.refl w.heap.size w).alloc (Nat.le_refl _) _).alloc (by simp) _).alloc (by simp; omega) _⟩

theorem three_blks (w w1 : World) (a b c : Array Value) (S T U : TypeId) (h : Below (((w.alloc (.cells a S)).alloc (.cells b T)).alloc (.cells c U)).heap.size (((w.alloc (.cells a S)).alloc (.cells b T)).alloc (.cells c U)) w1) :
    Blk w1 w.heap.size a.toList S ∧ Blk w1 (w.heap.size + 1) b.toList T ∧ Blk w1 (w.heap.size + 1 + 1) c.toList U ∧ Below w.heap.size w w1 := by
  have h1 := (((Blk.made w a S).alloc (.cells b T)).alloc (.cells c U)).below h (by simp; omega)
  have h2 := ((Blk.made (w.alloc (.cells a S)) b T).alloc (.cells c U)).below h (by simp)
  have h3 := (Blk.made ((w.alloc (.cells a S)).alloc (.cells b T)) c U).below h (by simp)
  exact ⟨h1, by simpa using h2, by simpa using h3, ((((Below.refl w.heap.size w).alloc (Nat.le_refl _) _).alloc (by simp) _).alloc (by simp; omega) _).trans (h.mono (by simp; omega))⟩

set_option maxRecDepth 10000 in
theorem toSyncBeat_any (v : Int) (c : Bool) (u : Int) (d : Bool) (w : World) :
    Calls Try.prog 95 #[.agg #[.int .i64 v, .bool c, .int .i64 u, .bool d]] w fun e w' => e = .returned (.agg #[.int .i64 v, .bool c, .int .i64 u, .bool d]) ∧ Below w.heap.size w w' := by
  go_enter Try.func95, Try.ntmps95
  go_wp2_with fail
  refine (toSyncThrow_any _ _ _).mono ?_
  rintro e w1 ⟨rfl, b1⟩
  obtain ⟨p1, q1, r1, b1⟩ := three_blks w w1 _ _ _ _ _ _ b1
  have c2 := p1.cell 2
  have c3 := p1.cell 3
  have o0 := r1.cell 0
  have o1 := r1.cell 1
  have f0 := r1.free 0
  have f1 := r1.free 1
  have p2 := (p1.other (p := ⟨w.heap.size + 1 + 1, 0, none⟩) (by simp; omega) (.int .i64 v)).other (p := ⟨w.heap.size + 1 + 1, 1, none⟩) (by simp; omega) (.bool c)
  have q2 := (q1.other (p := ⟨w.heap.size + 1 + 1, 0, none⟩) (by simp) (.int .i64 v)).other (p := ⟨w.heap.size + 1 + 1, 1, none⟩) (by simp) (.bool c)
  have r2 := (r1.set 0 (.int .i64 v)).set 1 (.bool c)
  have b2 := (b1.setCell (p := ⟨w.heap.size + 1 + 1, 0, none⟩) (by simp; omega) (.int .i64 v)).setCell (p := ⟨w.heap.size + 1 + 1, 1, none⟩) (by simp; omega) (.bool c)
  clear p1 q1 r1 b1
  simp at c2 c3 o0 o1
  go_wp2_with fail
  refine (toSyncThrow_any _ _ _).mono ?_
  rintro e w2 ⟨rfl, b3⟩
  generalize (w1.setCell ⟨w.heap.size + 1 + 1, 0, none⟩ (.int .i64 v)).setCell ⟨w.heap.size + 1 + 1, 1, none⟩ (.bool c) = W at *
  have q3 := q2.below b3 q2.lt
  have r3 := r2.below b3 r2.lt
  have b4 := b2.trans (b3.mono b2.size)
  clear p2 q2 r2 b2 b3 c2 c3 o0 o1 f0 f1
  have o0 := r3.cell 0
  have o1 := r3.cell 1
  have o2 := r3.cell 2
  have o3 := r3.cell 3
  have f2 := r3.free 2
  have f3 := r3.free 3
  have g0 := q3.cell 0
  have g1 := q3.cell 1
  have g2 := q3.cell 2
  have g3 := q3.cell 3
  have k0 := q3.free 0
  have k1 := q3.free 1
  have k2 := q3.free 2
  have k3 := q3.free 3
  simp at o0 o1 o2 o3 g0 g1 g2 g3
  have q4 := (((((q3.other (p := ⟨w.heap.size + 1 + 1, 2, none⟩) (by simp) (.int .i64 u)).other (p := ⟨w.heap.size + 1 + 1, 3, none⟩) (by simp) (.bool d)).set 0 (.int .i64 v)).set 1 (.bool c)).set 2 (.int .i64 u)).set 3 (.bool d)
  have h0 := q4.cell 0
  have h1 := q4.cell 1
  have h2 := q4.cell 2
  have h3 := q4.cell 3
  simp only [List.set_cons_zero, List.set_cons_succ, List.getElem?_cons_zero, List.getElem?_cons_succ] at h0 h1 h2 h3
  go_wp2
  refine bodyPost_ret (v := .agg #[.int .i64 v, .bool c, .int .i64 u, .bool d]) (by simp [results, Try.results95, go_sem, h0, h1, h2, h3]) rfl ?_
  exact ⟨rfl, (((((b4.setCell (p := ⟨w.heap.size + 1 + 1, 2, none⟩) (by simp; omega) _).setCell (p := ⟨w.heap.size + 1 + 1, 3, none⟩) (by simp; omega) _).setCell (p := ⟨w.heap.size + 1, 0, none⟩) (by simp) _).setCell (p := ⟨w.heap.size + 1, 1, none⟩) (by simp) _).setCell (p := ⟨w.heap.size + 1, 2, none⟩) (by simp) _).setCell (p := ⟨w.heap.size + 1, 3, none⟩) (by simp) _⟩

/-! ### slices -/
abbrev Syns (w : World) (B : Nat) (v : Value) (xs : List Syn) : Prop := OwnK 115 4 synV w B v xs
def fitS (s : Syn) : Prop := (-9223372036854775808 ≤ s.1.1 ∧ s.1.1 ≤ 9223372036854775807) ∧ (-9223372036854775808 ≤ s.2.1 ∧ s.2.1 ≤ 9223372036854775807)
abbrev IsSyncs (w : World) (a : Option Addr) (len cap : Nat) (zs : List Syn) : Prop := IsK 4 synV fitS w a len cap zs
theorem Try.infoSyn : (Try.prog.info? 115).map (fun i => (i.zero, i.size, i.bytes)) = some (some (.agg #[.int .i64 0, .bool false, .int .i64 0, .bool false]), 4, 32) := by kernel_rfl

/-- the four cells of an element, as a walk asks for them -/
def Four (w : World) (b o : Nat) (s : Syn) : Prop := w.cell? ⟨b, o, none⟩ = some (.int .i64 s.1.1) ∧ w.cell? ⟨b, o + 1, none⟩ = some (.bool s.1.2) ∧ w.cell? ⟨b, o + 2, none⟩ = some (.int .i64 s.2.1) ∧ w.cell? ⟨b, o + 3, none⟩ = some (.bool s.2.2)
theorem Four.below {w w' : World} {N b o : Nat} {s : Syn} (h : Four w b o s) (hb : Below N w w') (hN : b < N) : Four w' b o s :=
  ⟨(hb.cell (p := ⟨b, o, none⟩) hN).trans h.1, (hb.cell (p := ⟨b, o + 1, none⟩) hN).trans h.2.1, (hb.cell (p := ⟨b, o + 2, none⟩) hN).trans h.2.2.1, (hb.cell (p := ⟨b, o + 3, none⟩) hN).trans h.2.2.2⟩
theorem IsK.four {w : World} {a : Option Addr} {len cap : Nat} {zs : List Syn} (h : IsSyncs w a len cap zs) : len = 0 ∨ ∃ b off, a = some ⟨b, off, none⟩ ∧ b < w.heap.size ∧ ∀ i, i < len → Four w b (off + i * 4) (zs.getD i s0) := by
  rcases h.parts synV_len (by decide) s0 with h | ⟨b, off, ha, hb, hc⟩
  · exact .inl h
  · refine .inr ⟨b, off, ha, hb, fun i hi => ⟨?_, ?_, ?_, ?_⟩⟩
    · exact hc i 0 hi (by decide)
    · exact hc i 1 hi (by decide)
    · exact hc i 2 hi (by decide)
    · exact hc i 3 hi (by decide)
theorem OwnK.four {w : World} {e : TypeId} {B g n cap : Nat} {xs : List Syn} (h : OwnK e 4 synV w B (.slice (some ⟨g, 0, none⟩) n cap) xs) (i : Nat) (hi : i < xs.length) : Four w g (i * 4) (xs.getD i s0) :=
  ⟨h.cell synV_len s0 i 0 hi (by decide), h.cell synV_len s0 i 1 hi (by decide), h.cell synV_len s0 i 2 hi (by decide), h.cell synV_len s0 i 3 hi (by decide)⟩
/-- an element is written -/
theorem OwnK.put4 {w : World} {e : TypeId} {B g n cap : Nat} {xs : List Syn} (h : OwnK e 4 synV w B (.slice (some ⟨g, 0, none⟩) n cap) xs) (i : Nat) (hi : i < xs.length) (y : Syn) :
    OwnK e 4 synV ((((w.setCell ⟨g, i * 4, none⟩ (.int .i64 y.1.1)).setCell ⟨g, i * 4 + 1, none⟩ (.bool y.1.2)).setCell ⟨g, i * 4 + 2, none⟩ (.int .i64 y.2.1)).setCell ⟨g, i * 4 + 3, none⟩ (.bool y.2.2)) B (.slice (some ⟨g, 0, none⟩) n cap) (xs.set i y) := by
  have h1 := h.put synV_len s0 i 0 (.int .i64 y.1.1) ((y.1.1, (xs.getD i s0).1.2), (xs.getD i s0).2) hi (by decide) rfl
  have h2 := h1.put synV_len s0 i 1 (.bool y.1.2) (y.1, (xs.getD i s0).2) (by simpa using hi) (by decide) (by simp [hi, synV])
  have h3 := h2.put synV_len s0 i 2 (.int .i64 y.2.1) (y.1, (y.2.1, (xs.getD i s0).2.2)) (by simpa using hi) (by decide) (by simp [hi, synV])
  have h4 := h3.put synV_len s0 i 3 (.bool y.2.2) y (by simpa using hi) (by decide) (by simp [hi, synV])
  simpa [List.set_set] using h4
theorem below_four {w w' : World} {N g o : Nat} (h : Below N w w') (hg : N ≤ g) (a b c d : Value) : Below N w ((((w'.setCell ⟨g, o, none⟩ a).setCell ⟨g, o + 1, none⟩ b).setCell ⟨g, o + 2, none⟩ c).setCell ⟨g, o + 3, none⟩ d) :=
  (((h.setCell (p := ⟨g, o, none⟩) hg a).setCell (p := ⟨g, o + 1, none⟩) hg b).setCell (p := ⟨g, o + 2, none⟩) hg c).setCell (p := ⟨g, o + 3, none⟩) hg d
theorem take_set_syn (zs : List Syn) (n k : Nat) (hk : k < n) (hn : n ≤ zs.length) :
    (zs.take k ++ List.replicate (n - k) s0).set k (zs.getD k s0) = zs.take (k + 1) ++ List.replicate (n - (k + 1)) s0 := by
  have e1 : zs.take (k + 1) = zs.take k ++ [zs.getD k s0] := by
    rw [List.take_succ_eq_append_getElem (by omega)]
    simp [show k < zs.length by omega]
  have hl : (zs.take k).length = k := by simp; omega
  rw [List.set_append_right _ _ (by omega), hl, Nat.sub_self, e1, List.append_assoc]
  congr 1
  rw [show n - k = (n - (k + 1)) + 1 by omega, List.replicate_succ]
  rfl

set_option maxRecDepth 10000 in
theorem szSyncBeatS_any (a : Option Addr) (len cap : Nat) (z : List Syn) (left : Int) (w : World) (h : IsSyncs w a len cap z) (h0 : 0 ≤ left) (h1 : left ≤ 1048576) :
    Calls Try.prog 46 #[.slice a len cap, .int .i64 left] w fun e w' => ∃ r, e = .returned (.int .i64 r) ∧ (r = -1 ∨ (0 ≤ r ∧ r = left - len)) ∧ Below w.heap.size w w' := by
  have hm := h.max
  clear h
  by_cases hl : left - (len : Int) < 0
  · go_enter Try.func46, Try.ntmps46
    go_wp2
    go_ret
    exact ⟨_, rfl, .inl rfl, Below.refl _ _⟩
  · go_enter Try.func46, Try.ntmps46
    go_wp2
    go_ret
    exact ⟨_, rfl, .inr ⟨by omega, rfl⟩, Below.refl _ _⟩

set_option maxRecDepth 10000 in
set_option maxHeartbeats 400000 in
theorem toSyncBeatS_pos (b off len cap : Nat) (zs : List Syn) (w : World) (hz : zs.length = len) (hbig : len ≤ 1048576) (hb : b < w.heap.size)
    (hc : ∀ i, i < len → Four w b (off + i * 4) (zs.getD i s0)) :
    Calls Try.prog 47 #[.slice (some ⟨b, off, none⟩) len cap] w fun e w' =>
      e = .returned (.slice (some ⟨w.heap.size, 0, none⟩) len len) ∧ Syns w' w.heap.size (.slice (some ⟨w.heap.size, 0, none⟩) len len) zs ∧ Below w.heap.size w w' := by
  obtain ⟨i0, hi, hz0, hz1, hz2⟩ := info_parts Try.infoSyn
  go_enter Try.func47, Try.ntmps47
  go_wp2_with (at_make; refine wpList_make_full _ rfl _ _ 44 rfl w.heap.size 115 i0 (.agg #[.int .i64 0, .bool false, .int .i64 0, .bool false]) 4 Try.underlying44 hi hz0 hz1 _ _ _ _ len rfl rfl rfl rfl (by rw [hz2]; omega) (by unfold maxLen; omega) (Nat.le_refl _) ?_)
  intro w1 hown hg
  have h1 : Syns w1 w.heap.size (.slice (some ⟨w.heap.size, 0, none⟩) len len) (zs.take 0 ++ List.replicate (len - 0) s0) := by
    have e := made_flat synV_len s0 len (by decide)
    unfold Syns OwnK
    rw [List.take_zero, List.nil_append, Nat.sub_zero, List.length_replicate, ← e]
    exact hown
  have hb1 : Below w.heap.size w w1 := (Below.refl _ _).grown hg (Nat.le_refl _) (by simp)
  clear hown hg hi hz0 hz1 hz2
  go_wp2
  go_loopw [4] (fun i wr => ∃ k : Nat, k ≤ len ∧ i = .int .i64 k ∧ Syns wr w.heap.size (.slice (some ⟨w.heap.size, 0, none⟩) len len) (zs.take k ++ List.replicate (len - k) s0) ∧ Below w.heap.size w wr)
    (fun i _ => len - (intOf i).toNat)
  case atStart => exact ⟨0, Nat.zero_le _, rfl, h1, hb1⟩
  case round =>
    obtain ⟨k, hk, rfl, hr, hbr⟩ := hrel
    by_cases hlt : k < len
    · obtain ⟨c0, c1, c2, c3⟩ := (hc k hlt).below hbr hb
      have hkl : k < (zs.take k ++ List.replicate (len - k) s0).length := by simp; omega
      have HPUT := Lib.hid (fun W (hW : Below wr.heap.size wr W) => by
        have hn := (hr.below hW).put4 k hkl (zs.getD k s0)
        rw [take_set_syn zs len k hlt (by omega)] at hn
        exact hn)
      have HOLD := Lib.hid (fun W (hW : Below wr.heap.size wr W) => (hr.below hW).four k hkl)
      have HFR := Lib.hid (fun W (hW : Below wr.heap.size wr W) => (hr.below hW).free)
      have HC := fun W => toSyncBeat_any (zs.getD k s0).1.1 (zs.getD k s0).1.2 (zs.getD k s0).2.1 (zs.getD k s0).2.2 W
      have HKL := Lib.hid hkl
      clear h1 hb1 hc hr hkl
      generalize zs.getD k s0 = y at *
      generalize (zs.take k ++ List.replicate (len - k) s0).getD k s0 = x at *
      obtain ⟨⟨y0, y1⟩, y2, y3⟩ := y
      simp only at c0 c1 c2 c3 HC
      go_wp2_with fail
      refine (HC _).mono ?_
      rintro e w2 ⟨rfl, b2⟩
      obtain ⟨d0, d1, d2, d3⟩ := HOLD.out w2 b2
      have f0 := HFR.out w2 b2 (k * 4)
      have f1 := HFR.out w2 b2 (k * 4 + 1)
      have f2 := HFR.out w2 b2 (k * 4 + 2)
      have f3 := HFR.out w2 b2 (k * 4 + 3)
      have HN := Lib.hid (HPUT.out w2 b2)
      have hbn := below_four (hbr.trans (b2.mono hbr.size)) (g := w.heap.size) (o := k * 4) (Nat.le_refl _) (.int .i64 y0) (.bool y1) (.int .i64 y2) (.bool y3)
      clear HPUT HOLD HFR HC c0 c1 c2 c3 b2
      go_wp2
      go_roundw
      case rel => exact ⟨k + 1, by omega, by go_num, HN.out, hbn⟩
      case measure => simp [intOf]; omega
    · obtain rfl : k = len := by omega
      clear h1 hb1 hc
      go_wp2
      go_ret
      exact ⟨rfl, by simpa [← hz] using hr, hbr⟩

set_option maxRecDepth 10000 in
theorem toSyncBeatS_zero (a : Option Addr) (cap : Nat) (w : World) :
    Calls Try.prog 47 #[.slice a 0 cap] w fun e w' =>
      e = .returned (.slice (some ⟨w.heap.size, 0, none⟩) 0 0) ∧ Syns w' w.heap.size (.slice (some ⟨w.heap.size, 0, none⟩) 0 0) [] ∧ Below w.heap.size w w' := by
  obtain ⟨i0, hi, hz0, hz1, hz2⟩ := info_parts Try.infoSyn
  go_enter Try.func47, Try.ntmps47
  go_wp2_with (at_make; refine wpList_make_full _ rfl _ _ 44 rfl w.heap.size 115 i0 (.agg #[.int .i64 0, .bool false, .int .i64 0, .bool false]) 4 Try.underlying44 hi hz0 hz1 _ _ _ _ 0 rfl rfl rfl rfl (by rw [hz2]; omega) (by unfold maxLen; omega) (Nat.le_refl _) ?_)
  intro w1 hown hg
  have h1 : Syns w1 w.heap.size (.slice (some ⟨w.heap.size, 0, none⟩) 0 0) [] := by
    unfold Syns OwnK
    simpa [madeCells] using hown
  have hb1 : Below w.heap.size w w1 := (Below.refl _ _).grown hg (Nat.le_refl _) (by simp)
  clear hown hg hi hz0 hz1 hz2
  go_wp2
  refine wp_loop_rounds 1 ?_
  rw [rounds_succ]
  go_wp2
  go_ret
  exact ⟨rfl, h1, hb1⟩

theorem toSyncBeatS_any (a : Option Addr) (len cap : Nat) (zs : List Syn) (w : World) (h : IsSyncs w a len cap zs) (hbig : len ≤ 1048576) :
    Calls Try.prog 47 #[.slice a len cap] w fun e w' =>
      e = .returned (.slice (some ⟨w.heap.size, 0, none⟩) len len) ∧ Syns w' w.heap.size (.slice (some ⟨w.heap.size, 0, none⟩) len len) zs ∧ Below w.heap.size w w' := by
  have hn := h.num
  rcases h.four with rfl | ⟨b, off, rfl, hb, hc⟩
  · obtain rfl : zs = [] := List.length_eq_zero_iff.1 hn
    exact toSyncBeatS_zero a cap w
  · exact toSyncBeatS_pos b off len cap zs w hn hbig hb hc

/-! ### comparing -/
set_option maxRecDepth 10000 in
theorem eqSyncThrow_same (v : Int) (c : Bool) (w : World) :
    Calls Try.prog 139 #[.agg #[.int .i64 v, .bool c], .agg #[.int .i64 v, .bool c]] w fun e w' => e = .returned (.bool true) ∧ Below w.heap.size w w' := by
  go_enter Try.func139, Try.ntmps139
  go_wp2
  go_ret
  exact ⟨rfl, ((Below.refl w.heap.size w).alloc (Nat.le_refl _) _).alloc (by simp) _⟩
theorem two_blks (w w1 : World) (a b : Array Value) (S T : TypeId) (h : Below ((w.alloc (.cells a S)).alloc (.cells b T)).heap.size ((w.alloc (.cells a S)).alloc (.cells b T)) w1) :
    Blk w1 w.heap.size a.toList S ∧ Blk w1 (w.heap.size + 1) b.toList T ∧ Below w.heap.size w w1 := by
  have h1 := ((Blk.made w a S).alloc (.cells b T)).below h (by simp; omega)
  have h2 := (Blk.made (w.alloc (.cells a S)) b T).below h (by simp)
  exact ⟨h1, by simpa using h2, (((Below.refl w.heap.size w).alloc (Nat.le_refl _) _).alloc (by simp) _).trans (h.mono (by simp; omega))⟩
set_option maxRecDepth 10000 in
theorem eqSyncBeat_same (v : Int) (c : Bool) (u : Int) (d : Bool) (w : World) :
    Calls Try.prog 96 #[.agg #[.int .i64 v, .bool c, .int .i64 u, .bool d], .agg #[.int .i64 v, .bool c, .int .i64 u, .bool d]] w fun e w' => e = .returned (.bool true) ∧ Below w.heap.size w w' := by
  go_enter Try.func96, Try.ntmps96
  go_wp2_with fail
  refine (eqSyncThrow_same _ _ _).mono ?_
  rintro e w1 ⟨rfl, b1⟩
  obtain ⟨p1, q1, b1⟩ := two_blks w w1 _ _ _ _ b1
  have c2 := p1.cell 2
  have c3 := p1.cell 3
  have d2 := q1.cell 2
  have d3 := q1.cell 3
  simp at c2 c3 d2 d3
  clear p1 q1
  go_wp2_with fail
  refine (eqSyncThrow_same _ _ _).mono ?_
  rintro e w2 ⟨rfl, b2⟩
  replace b1 := b1.trans (b2.mono b1.size)
  clear b2 c2 c3 d2 d3
  go_wp2
  go_ret
  exact ⟨rfl, b1⟩

set_option maxRecDepth 10000 in
set_option maxHeartbeats 400000 in
theorem eqSyncBeatS_row (g g' cap cap' B B' : Nat) (xs : List Syn) (w : World) (h : Syns w B (.slice (some ⟨g, 0, none⟩) xs.length cap) xs) (h' : Syns w B' (.slice (some ⟨g', 0, none⟩) xs.length cap') xs) (hg : g < w.heap.size) (hg' : g' < w.heap.size) :
    Calls Try.prog 48 #[.slice (some ⟨g, 0, none⟩) xs.length cap, .slice (some ⟨g', 0, none⟩) xs.length cap'] w fun e w' => e = .returned (.bool true) ∧ Below w.heap.size w w' := by
  have hm := h.len
  obtain ⟨n, hn⟩ : ∃ n, n = xs.length := ⟨_, rfl⟩
  have hc : ∀ i, i < n → Four w g (i * 4) (xs.getD i s0) := fun i hi => h.four i (by omega)
  have hc' : ∀ i, i < n → Four w g' (i * 4) (xs.getD i s0) := fun i hi => h'.four i (by omega)
  rw [← hn] at hm ⊢
  clear h h'
  have HN := Lib.hid hn
  clear hn
  go_enter Try.func48, Try.ntmps48
  go_wp2
  go_loopw [5] (fun i wr => ∃ k : Nat, k ≤ n ∧ i = .int .i64 k ∧ Below w.heap.size w wr) (fun i _ => n - (intOf i).toNat)
  case atStart => exact ⟨0, Nat.zero_le _, rfl, Below.refl _ _⟩
  case round =>
    obtain ⟨k, hk, rfl, hb⟩ := hrel
    by_cases hlt : k < n
    · obtain ⟨c0, c1, c2, c3⟩ := (hc k hlt).below hb hg
      obtain ⟨d0, d1, d2, d3⟩ := (hc' k hlt).below hb hg'
      have HE := Lib.hid (fun W (hW : Below wr.heap.size wr W) => show Calls Try.prog 96 #[.agg #[.int .i64 (xs.getD k s0).1.1, .bool (xs.getD k s0).1.2, .int .i64 (xs.getD k s0).2.1, .bool (xs.getD k s0).2.2], .agg #[.int .i64 (xs.getD k s0).1.1, .bool (xs.getD k s0).1.2, .int .i64 (xs.getD k s0).2.1, .bool (xs.getD k s0).2.2]] W fun e w' => e = .returned (.bool true) ∧ Below wr.heap.size wr w' from
        (eqSyncBeat_same _ _ _ _ W).mono fun e w' ⟨h1, h2⟩ => ⟨h1, hW.trans (h2.mono hW.size)⟩)
      clear hc hc'
      generalize xs.getD k s0 = y at *
      obtain ⟨⟨y0, y1⟩, y2, y3⟩ := y
      simp only at c0 c1 c2 c3 d0 d1 d2 d3 HE
      go_wp2
      go_region_law (first | (go_simp; go_at_call 96; (with_reducible refine (HE.out _ ?_).mono ?_); (repeat (first | exact Below.refl _ _ | refine Below.drew ?_ | refine below_drewN ?_ _)); rintro e w2 ⟨rfl, b2⟩))
      all_goals go_wp2
      all_goals exact ⟨⟨k + 1, by omega, by go_num, hb.trans (b2.mono hb.size)⟩, by simp [intOf]; omega⟩
    · obtain rfl : k = n := by omega
      clear hc hc'
      go_wp2
      go_ret
      exact ⟨rfl, hb⟩

set_option maxRecDepth 10000 in
theorem eqSyncBeatS_zero (a a' : Option Addr) (cap cap' : Nat) (w : World) :
    Calls Try.prog 48 #[.slice a 0 cap, .slice a' 0 cap'] w fun e w' => e = .returned (.bool true) ∧ Below w.heap.size w w' := by
  go_enter Try.func48, Try.ntmps48
  go_wp2
  refine wp_loop_rounds 1 ?_
  rw [rounds_succ]
  go_wp2
  go_ret
  exact ⟨rfl, Below.refl _ _⟩

theorem eqSyncBeatS_any (v u : Value) (B B' : Nat) (xs : List Syn) (w : World) (h : Syns w B v xs) (h' : Syns w B' u xs) :
    Calls Try.prog 48 #[v, u] w fun e w' => e = .returned (.bool true) ∧ Below w.heap.size w w' := by
  rcases h.shape with ⟨rfl, rfl⟩ | ⟨g, cap, rfl, _, hg, _, _⟩
  · rcases h'.shape with ⟨rfl, _⟩ | ⟨g', cap', rfl, _, _, _, _⟩
    · exact eqSyncBeatS_zero _ _ _ _ _
    · exact eqSyncBeatS_zero _ _ _ _ _
  · rcases h'.shape with ⟨rfl, rfl⟩ | ⟨g', cap', rfl, _, hg', _, _⟩
    · exact eqSyncBeatS_zero _ _ _ _ _
    · exact eqSyncBeatS_row _ _ _ _ _ _ _ _ h h' hg hg'

/-! ### marks -/
def mkS (k : Int) : Syn := ((k, (k + 1) % 3 == 0), (k + 2, (k + 3) % 3 == 0))
def upsS (k : Int) (n : Nat) : List Syn := (List.range n).map fun i : Nat => mkS (k + 4 * (i : Int))
theorem upsS_len (k : Int) (n : Nat) : (upsS k n).length = n := by simp [upsS]
theorem upsS_get (k : Int) (n j : Nat) (h : j < n) : (upsS k n).getD j s0 = mkS (k + 4 * (j : Int)) := by simp [upsS, h]
theorem upsS_set (k : Int) (xs : List Syn) (j : Nat) (h : j < xs.length) : (upsS k j ++ xs.drop j).set j (mkS (k + 4 * (j : Int))) = upsS k (j + 1) ++ xs.drop (j + 1) := by
  have e1 : upsS k (j + 1) = upsS k j ++ [mkS (k + 4 * (j : Int))] := by simp [upsS, List.range_succ]
  rw [List.set_append_right _ _ (by rw [upsS_len]; exact Nat.le_refl _), upsS_len, Nat.sub_self, e1, List.append_assoc]
  congr 1
  rw [List.drop_eq_getElem_cons h]
  rfl
theorem grown_four {w wr : World} {g o : Nat} (h : w.grownBy wr (some g)) (a b c d : Value) : w.grownBy ((((wr.setCell ⟨g, o, none⟩ a).setCell ⟨g, o + 1, none⟩ b).setCell ⟨g, o + 2, none⟩ c).setCell ⟨g, o + 3, none⟩ d) (some g) := by
  have one : ∀ (wr : World) (o : Nat) (a : Value), w.grownBy wr (some g) → w.grownBy (wr.setCell ⟨g, o, none⟩ a) (some g) := fun wr o a h =>
    ⟨h.os, h.tape, h.output, by simpa using h.size, fun k hk hne => by rw [Below.heap_setCell _ _ _ _ (by simpa using fun e => hne (by rw [e]))]; exact h.block k hk hne⟩
  exact one _ _ _ (one _ _ _ (one _ _ _ (one _ _ _ h)))

set_option maxRecDepth 10000 in
set_option maxHeartbeats 400000 in
theorem markSyncBeatS_row (g cap B : Nat) (xs : List Syn) (k0 : Int) (w : World) (h : Syns w B (.slice (some ⟨g, 0, none⟩) xs.length cap) xs) (hk0 : 0 ≤ k0) (hk1 : k0 + 4 * xs.length ≤ 1000000000000) :
    Calls Try.prog 49 #[.slice (some ⟨g, 0, none⟩) xs.length cap, .int .i64 k0] w fun e w' =>
      e = .returned (.int .i64 (k0 + 4 * xs.length)) ∧ Syns w' B (.slice (some ⟨g, 0, none⟩) xs.length cap) (upsS k0 xs.length) ∧ w.grownBy w' (some g) := by
  have hm := h.len
  obtain ⟨n, hn⟩ : ∃ n, n = xs.length := ⟨_, rfl⟩
  have hs : Syns w B (.slice (some ⟨g, 0, none⟩) xs.length cap) (upsS k0 0 ++ xs.drop 0) := by simpa [upsS] using h
  rw [← hn] at hm hk1 hs ⊢
  clear h
  have HN := Lib.hid hn
  clear hn
  go_enter Try.func49, Try.ntmps49
  go_wp2
  go_loopw [1, 5] (fun c i wr => ∃ (k : Nat) (c0 : Int), k ≤ n ∧ i = .int .i64 k ∧ c = .int .i64 c0 ∧ Hid (c0 = k0 + 4 * k) ∧ Syns wr B (.slice (some ⟨g, 0, none⟩) n cap) (upsS k0 k ++ xs.drop k) ∧ w.grownBy wr (some g))
    (fun _ i _ => n - (intOf i).toNat)
  case atStart => exact ⟨0, k0, Nat.zero_le _, rfl, rfl, by unfold Hid; simp, hs, World.grownBy.refl _ _⟩
  case round =>
    obtain ⟨k, c, hk, rfl, rfl, hcc, hr, hg⟩ := hrel
    by_cases hlt : k < n
    · have hn := HN.out
      have hlen : k < (upsS k0 k ++ xs.drop k).length := by simp [upsS_len]; omega
      obtain ⟨d0, d1, d2, d3⟩ := hr.four k hlen
      have f0 := hr.free (k * 4)
      have f1 := hr.free (k * 4 + 1)
      have f2 := hr.free (k * 4 + 2)
      have f3 := hr.free (k * 4 + 3)
      have hN := hr.put4 k hlen (mkS c)
      have hc := hcc.out
      have hc0 : 0 ≤ c := by omega
      have hc1 : c ≤ 1000000000000 := by omega
      have e := upsS_set k0 xs k (by omega)
      rw [← hc] at e
      rw [e] at hN
      have hgN := grown_four (o := k * 4) hg (.int .i64 c) (.bool ((c + 1) % 3 == 0)) (.int .i64 (c + 2)) (.bool ((c + 3) % 3 == 0))
      have HNN := Lib.hid hN
      have HGN := Lib.hid hgN
      have HC2 : Hid (c + 4 = k0 + 4 * ((k + 1 : Nat) : Int)) := by unfold Hid; omega
      clear hs hn hlen hN hgN hr hg e hc
      go_wp2
      rw [show c + 1 + 1 + 1 + 1 = c + 4 by omega, show c + 1 + 1 + 1 = c + 3 by omega, show c + 1 + 1 = c + 2 by omega]
      exact ⟨⟨k + 1, c + 4, by omega, by go_num, rfl, HC2, HNN.out, HGN.out⟩, by simp [intOf]; omega⟩
    · obtain rfl : k = n := by omega
      have hn := HN.out
      have hd : xs.drop k = [] := by simp; omega
      rw [hd, List.append_nil] at hr
      have hc := hcc.out
      subst hc
      clear hs hn hd
      go_wp2
      go_ret
      exact ⟨rfl, hr, hg⟩

set_option maxRecDepth 10000 in
theorem markSyncBeatS_zero (a : Option Addr) (cap : Nat) (k0 : Int) (w : World) :
    Calls Try.prog 49 #[.slice a 0 cap, .int .i64 k0] w fun e w' => e = .returned (.int .i64 k0) ∧ w = w' := by
  go_enter Try.func49, Try.ntmps49
  go_wp2
  refine wp_loop_rounds 1 ?_
  rw [rounds_succ]
  go_wp2
  go_ret
  exact ⟨rfl, rfl⟩

theorem markSyncBeatS_any (v : Value) (B : Nat) (xs : List Syn) (k0 : Int) (w : World) (h : Syns w B v xs) (hk0 : 0 ≤ k0) (hk1 : k0 + 4 * xs.length ≤ 1000000000000) :
    Calls Try.prog 49 #[v, .int .i64 k0] w fun e w' =>
      e = .returned (.int .i64 (k0 + 4 * xs.length)) ∧ Syns w' B v (upsS k0 xs.length) ∧ w.grownBy w' v.ownBlock := by
  rcases h.shape with ⟨rfl, rfl⟩ | ⟨g, cap, rfl, _, _, _⟩
  · refine (markSyncBeatS_zero _ _ _ _).mono ?_
    rintro e w' ⟨rfl, rfl⟩
    exact ⟨by simp, OwnK.nil _ _ _ _ _, World.grownBy.refl _ _⟩
  · exact markSyncBeatS_row _ _ _ _ _ _ h hk0 hk1

set_option maxRecDepth 10000 in
set_option maxHeartbeats 400000 in
theorem heldSyncBeatS_row (g cap B n : Nat) (k0 : Int) (w : World) (h : Syns w B (.slice (some ⟨g, 0, none⟩) n cap) (upsS k0 n)) (hg : g < w.heap.size) (hk0 : 0 ≤ k0) (hk1 : k0 + 4 * n ≤ 1000000000000) :
    Calls Try.prog 50 #[.slice (some ⟨g, 0, none⟩) n cap, .int .i64 k0] w fun e w' => e = .returned (.int .i64 (k0 + 4 * n)) ∧ Below w.heap.size w w' := by
  have hc : ∀ i, i < n → Four w g (i * 4) (mkS (k0 + 4 * (i : Int))) := fun i hi => by
    have := h.four i (by rw [upsS_len]; exact hi)
    rwa [upsS_get k0 n i hi] at this
  clear h
  go_enter Try.func50, Try.ntmps50
  go_wp2
  go_loopw [1, 5] (fun c i wr => ∃ (k : Nat) (c0 : Int), k ≤ n ∧ i = .int .i64 k ∧ c = .int .i64 c0 ∧ Hid (c0 = k0 + 4 * k) ∧ Below w.heap.size w wr)
    (fun _ i _ => n - (intOf i).toNat)
  case atStart => exact ⟨0, k0, Nat.zero_le _, rfl, rfl, by unfold Hid; simp, Below.refl _ _⟩
  case round =>
    obtain ⟨k, c, hk, rfl, rfl, hcc, hb⟩ := hrel
    by_cases hlt : k < n
    · have hh := hc k hlt
      rw [← hcc.out] at hh
      obtain ⟨d0, d1, d2, d3⟩ := hh.below hb hg
      have e := hcc.out
      have hc0 : 0 ≤ c := by omega
      have hc1 : c ≤ 1000000000000 := by omega
      have HC2 : Hid (c + 4 = k0 + 4 * ((k + 1 : Nat) : Int)) := by unfold Hid; omega
      simp only [mkS] at d0 d1 d2 d3
      rw [show c + 2 = c + 1 + 1 by omega] at d2
      rw [show c + 3 = c + 1 + 1 + 1 by omega] at d3
      clear hc hh e
      go_wp2
      rw [show c + 1 + 1 + 1 + 1 = c + 4 by omega]
      exact ⟨⟨k + 1, c + 4, by omega, by go_num, rfl, HC2, hb⟩, by simp [intOf]; omega⟩
    · obtain rfl : k = n := by omega
      have e := hcc.out
      subst e
      clear hc
      go_wp2
      go_ret
      exact ⟨rfl, hb⟩

set_option maxRecDepth 10000 in
theorem heldSyncBeatS_zero (a : Option Addr) (cap : Nat) (k0 : Int) (w : World) :
    Calls Try.prog 50 #[.slice a 0 cap, .int .i64 k0] w fun e w' => e = .returned (.int .i64 k0) ∧ Below w.heap.size w w' := by
  go_enter Try.func50, Try.ntmps50
  go_wp2
  refine wp_loop_rounds 1 ?_
  rw [rounds_succ]
  go_wp2
  go_ret
  exact ⟨rfl, Below.refl _ _⟩

theorem heldSyncBeatS_any (v : Value) (B n : Nat) (k0 : Int) (w : World) (h : Syns w B v (upsS k0 n)) (hk0 : 0 ≤ k0) (hk1 : k0 + 4 * n ≤ 1000000000000) :
    Calls Try.prog 50 #[v, .int .i64 k0] w fun e w' => e = .returned (.int .i64 (k0 + 4 * n)) ∧ Below w.heap.size w w' := by
  rcases h.shape with ⟨rfl, h0⟩ | ⟨g, cap, rfl, _, hg, _, _⟩
  · obtain rfl : n = 0 := by simpa [upsS_len] using congrArg List.length h0
    refine (heldSyncBeatS_zero _ _ _ _).mono ?_
    rintro e w' ⟨rfl, hb⟩
    exact ⟨by simp, hb⟩
  · rw [upsS_len] at h ⊢
    exact heldSyncBeatS_row _ _ _ _ _ _ h hg hk0 hk1
end Go.Proofs.Ytgjmhihomklooaa

/- Drawn synchronous patterns: l05Draw. No conditions. -/
namespace Go.Proofs.Ytgjmhihomklooaa
open Go.RowKit
set_option linter.unusedSimpArgs false
set_option linter.unusedVariables false

theorem OwnK.keepb {α : Type} {e : TypeId} {kk : Nat} {c : α → List Value} {w w' : World} {C b : Nat} {v : Value} {p : List α} (h : OwnK e kk c w C v p) (g : w.grownBy w' (some b)) (hb : b < C) : OwnK e kk c w' C v p :=
  h.block fun g' hg hlt => g.block g' hlt (by have := h.own_ge hg; intro e; cases e; omega)

/-- what a drawing of beats keeps: the beats, what they land in, the source -/
def DrS (w : World) (C n g m cap' : Nat) (L : List Int) (b K : Nat) (cv : Value) (W : World) (p : List Syn) : Prop :=
  Syns W C (.slice (some ⟨C, 0, none⟩) n n) p ∧ Ints W w.heap.size (.slice (some ⟨g, 0, none⟩) m cap') L ∧ Src W b K cv ∧ w.grownBy W (some b) ∧ C + 1 ≤ W.heap.size
section
variable {w W W' : World} {C n g m cap' b K K' tb : Nat} {L : List Int} {cv : Value} {p : List Syn}
theorem DrS.tset (h : DrS w C n g m cap' L b K cv W p) (h1 : tb ≠ C) (h2 : tb ≠ g) (h3 : tb ≠ b) (h4 : w.heap.size ≤ tb) (j : Nat) (v : Value) : DrS w C n g m cap' L b K cv (W.setCell ⟨tb, j, none⟩ v) p :=
  ⟨h.1.block fun g' hg _ => Below.heap_setCell _ _ _ _ (by simp [Value.ownBlock] at hg; subst hg; exact fun e => h1 e.symm),
   h.2.1.block fun g' hg _ => Below.heap_setCell _ _ _ _ (by simp [Value.ownBlock] at hg; subst hg; exact fun e => h2 e.symm),
   h.2.2.1.set j (fun e => h3 e.symm) v, grown_new h.2.2.2.1 j h4 v, by simpa using h.2.2.2.2⟩
theorem DrS.put (h : DrS w C n g m cap' L b K cv W p) (h1 : C ≠ g) (h2 : C ≠ b) (h4 : w.heap.size ≤ C) (i t : Nat) (u : Value) (y : Syn) (hi : i < p.length) (ht : t < 4) (hy : synV y = (synV (p.getD i s0)).set t u) : DrS w C n g m cap' L b K cv (W.setCell ⟨C, i * 4 + t, none⟩ u) (p.set i y) :=
  ⟨h.1.put synV_len s0 i t u y hi ht hy,
   h.2.1.block fun g' hg _ => Below.heap_setCell _ _ _ _ (by simp [Value.ownBlock] at hg; subst hg; exact fun e => h1 e.symm),
   h.2.2.1.set _ (fun e => h2 e.symm) u, grown_new h.2.2.2.1 _ h4 u, by simpa using h.2.2.2.2⟩
theorem DrS.left (h : DrS w C n g m cap' L b K cv W p) (h1 : C ≠ g) (h2 : C ≠ b) (h4 : w.heap.size ≤ C) (i : Nat) (v : Int) (c : Bool) (hi : i < p.length) :
    DrS w C n g m cap' L b K cv ((W.setCell ⟨C, i * 4, none⟩ (.int .i64 v)).setCell ⟨C, i * 4 + 1, none⟩ (.bool c)) (p.set i ((v, c), (p.getD i s0).2)) := by
  have a1 := h.put h1 h2 h4 i 0 (.int .i64 v) ((v, (p.getD i s0).1.2), (p.getD i s0).2) hi (by decide) rfl
  have a2 := a1.put h1 h2 h4 i 1 (.bool c) ((v, c), (p.getD i s0).2) (by simpa using hi) (by decide) (by simp [hi, synV])
  simpa [List.set_set] using a2
theorem DrS.right (h : DrS w C n g m cap' L b K cv W p) (h1 : C ≠ g) (h2 : C ≠ b) (h4 : w.heap.size ≤ C) (i : Nat) (v : Int) (c : Bool) (hi : i < p.length) :
    DrS w C n g m cap' L b K cv ((W.setCell ⟨C, i * 4 + 2, none⟩ (.int .i64 v)).setCell ⟨C, i * 4 + 3, none⟩ (.bool c)) (p.set i ((p.getD i s0).1, (v, c))) := by
  have a1 := h.put h1 h2 h4 i 2 (.int .i64 v) ((p.getD i s0).1, (v, (p.getD i s0).2.2)) hi (by decide) rfl
  have a2 := a1.put h1 h2 h4 i 3 (.bool c) ((p.getD i s0).1, (v, c)) (by simpa using hi) (by decide) (by simp [hi, synV])
  simpa [List.set_set] using a2
theorem DrS.more (h : DrS w C n g m cap' L b K cv W p) (g5 : W.grownBy W' (some b)) (s5 : Src W' b K' cv) (h1 : b < C) (h2 : b < w.heap.size) : DrS w C n g m cap' L b K' cv W' p :=
  ⟨h.1.keepb g5 h1, h.2.1.keepb g5 h2, s5, h.2.2.2.1.trans g5, Nat.le_trans h.2.2.2.2 g5.size⟩
theorem DrS.below (h : DrS w C n g m cap' L b K cv W p) (hb : Below W.heap.size W W') : DrS w C n g m cap' L b K cv W' p := by
  have gX : W.grownBy W' none := ⟨hb.os, hb.tape, hb.output, hb.size, fun k hk _ => hb.block k hk⟩
  exact ⟨h.1.below hb, h.2.1.below hb, h.2.2.1.keep gX (by simp), h.2.2.2.1.andThen gX (fun q hq => by cases hq), Nat.le_trans h.2.2.2.2 hb.size⟩
end
theorem bel_al {N : Nat} {w a : World} (h : Below N w a) (hN : N ≤ w.heap.size) (o : Obj) : Below N w (a.alloc o) := h.alloc (Nat.le_trans hN h.size) o

set_option maxRecDepth 10000 in
set_option maxHeartbeats 4000000 in
theorem l05Draw_any (a : Option Addr) (len cap b k : Nat) (m : Int) (zs : List Int) (w : World) (hs : Src w b k (.slice a len cap)) (hr : IsRow .u8 w a len cap zs) (hab : ∀ x, a = some x → 0 < zs.length → x.block ≠ b) (hlen : len ≤ 1000000000) (hk : k ≤ 1000000) (hm1 : 1 ≤ m) (hm : m ≤ 3) :
    Calls Try.prog 130 #[.pointer (some ⟨b, 0, none⟩), .int .i64 m] w fun e w' => ∃ v p, e = .returned v ∧ Syns w' w.heap.size v p ∧ 1 ≤ p.length ∧ p.length ≤ 3 ∧ Src w' b (k + 100) (.slice a len cap) ∧ w.grownBy w' (some b) := by
  obtain ⟨i0, hi0, hz0, hz1', hz2⟩ := info_parts Try.infoSyn
  have HP := pick_any a len cap b k m zs w hs hr hlen (by omega) (by omega)
  go_enter Try.func130, Try.ntmps130
  go_wp2_with fail
  refine HP.mono ?_
  rintro e w1 ⟨x, rfl, hx, s1, g1⟩
  clear HP
  have hbw := hs.lt
  have z1 := g1.size
  have hrow : ∀ wr : World, w.grownBy wr (some b) → IsRow .u8 wr a len cap zs := fun wr hg => hr.grown hg fun x hx h0 => by simpa using hab x hx h0
  have HROW := Lib.hid hrow
  have i1 : Ints (w1.alloc (.cells #[] 2)) w.heap.size (.slice (some ⟨w1.heap.size, 0, none⟩) 0 0) [] := World.ownsRow_lit w1 #[] 0 z1 (by simp [maxLen]) rfl
  have G1 : w.grownBy (w1.alloc (.cells #[] 2)) (some b) := g1.trans (World.grownBy_alloc _ _ _)
  have S1 := s1.keep (World.grownBy_alloc w1 (.cells #[] 2) none) (by simp)
  obtain ⟨n, hn⟩ : ∃ n : Nat, 1 + x = (n : Int) := ⟨(1 + x).toNat, by omega⟩
  have hn1 : 1 ≤ n := by omega
  have hn7 : n ≤ 3 := by omega
  clear s1 g1 hs hr hrow hx hab
  go_wp2
  clear hn
  go_loopw [6, 7, 8] (fun v i _ wr => ∃ (L : List Int) (j : Nat), i = .int .i64 j ∧ j ≤ 2 * n ∧ IsPerm L j ∧ Ints wr w.heap.size v L ∧ Src wr b (k + 1 + j) (.slice a len cap) ∧ w.grownBy wr (some b)) (fun _ i _ _ => 2 * n - (intOf i).toNat)
  case atStart => exact ⟨[], 0, rfl, Nat.zero_le _, IsPerm.nil, i1, S1, G1⟩
  case round =>
    obtain ⟨L, j, rfl, hj, hL, hi, hs, hg⟩ := hrel
    have hLl := hL.1
    have hzr := hg.size
    by_cases hlt : j < 2 * n
    · have hlt' : (j : Int) < 2 * (n : Int) := by omega
      have HC := pick_any a len cap b (k + 1 + j) (j + 1) zs _ hs (HROW.out _ hg) hlen (by omega) (by omega)
      have hl9 : L.length ≤ 1000000000 := by omega
      go_wp2_with fail
      refine HC.mono ?_
      rintro e w3 ⟨y, rfl, hy, s3, g3⟩
      have i3 := hi.block (w' := w3) (fun g hg hlt => g3.block g hlt (by have := hi.own_ge hg; intro e; cases e; omega))
      have G3 := hg.trans g3
      have Z3 := G3.size
      go_wp2_with (at_builtin; refine append_int _ rfl _ _ rfl _ _ _ rfl i3 _ rfl hl9 (by omega) ?_; intro v' w4 i4 g4; refine Hid.out ?_)
      have G4 : w.grownBy w4 (some b) := G3.andThen g4 (fun q hq => .inl (by have := i3.own_ge hq; exact this))
      have S4 := s3.keep g4 (by intro e; have := i3.own_ge e.symm; omega)
      obtain ⟨q, rfl⟩ : ∃ q : Nat, y = q := ⟨y.toNat, by omega⟩
      have hqj : q ≤ j := by omega
      have HM := hL.more hqj
      have hll : (L ++ [(j : Int)]).length = j + 1 := by simp [hLl]
      clear HC hi hs hg i3 s3 g3 g4 G3 Z3
      rcases i4.shape with ⟨rfl, hnil⟩ | ⟨g, cap', rfl, hBg, hgs, _⟩
      · simp at hnil
      have cq := i4.cell q (by omega)
      have cj := i4.cell j (by omega)
      have fq := i4.free q
      have fj := i4.free j
      rw [hll] at *
      generalize hX : L ++ [(j : Int)] = X at *
      have hbg : b ≠ g := by omega
      have GA := grown_new (grown_new G4 j hBg (.int .i64 (X.getD q 0))) q hBg (.int .i64 j)
      have SA := (S4.set j hbg (.int .i64 (X.getD q 0))).set q hbg (.int .i64 j)
      have IA := (i4.set j (X.getD q 0)).set q (j : Int)
      have hqj' : q < j + 1 := by omega
      have hX := Lib.hid hX
      generalize X.getD q 0 = y at *
      refine Lib.hid ?_
      by_cases hqe : q = j
      · subst hqe
        go_wp2
        go_roundw
        case rel => exact ⟨_, q + 1, by go_num, by omega, HM, IA, SA.mono (by omega), GA⟩
        case measure => simp [intOf]; omega
      · go_wp2
        go_roundw
        case rel => exact ⟨_, j + 1, by go_num, by omega, HM, IA, SA.mono (by omega), GA⟩
        case measure => simp [intOf]; omega
    · obtain rfl : j = 2 * n := by omega
      rcases hi.shape with ⟨rfl, rfl⟩ | ⟨g, cap', rfl, hBg, hgs, _⟩
      · simp at hLl; omega
      have HLB := Lib.hid hL
      have hlt' : ¬ ((2 * n : Nat) : Int) < 2 * (n : Int) := by omega
      rw [hLl] at *
      obtain ⟨C, hC⟩ : ∃ C, C = wr.heap.size := ⟨_, rfl⟩
      have hCw : w.heap.size ≤ C := by omega
      have hgC : g < C := by omega
      have hbC : b < C := by omega
      clear hL i1 G1 S1 z1
      go_wp2_with (at_make; refine wpList_make_full _ rfl _ _ 44 rfl C 115 i0 (.agg #[.int .i64 0, .bool false, .int .i64 0, .bool false]) 4 Try.underlying44 hi0 hz0 hz1' _ _ _ _ n rfl rfl rfl rfl (by rw [hz2]; omega) (by unfold maxLen; omega) (by omega) ?_; intro w3 hown hg3; refine Hid.out ?_)
      have ip0 : Syns w3 C (.slice (some ⟨wr.heap.size, 0, none⟩) n n) (List.replicate n s0) := by
        have e := made_flat synV_len s0 n (by decide)
        unfold Syns OwnK
        rw [List.length_replicate, ← e]
        exact hown
      have il0 : Ints w3 w.heap.size (.slice (some ⟨g, 0, none⟩) (2 * n) cap') L := hi.block fun g' hg' hlt' => hg3.block g' hlt' (by simp)
      have is0 := hs.keep hg3 (by simp)
      have G3 : w.grownBy w3 (some b) := hg.andThen hg3 (fun q hq => by cases hq)
      have zC3 : C + 1 ≤ w3.heap.size := by
        obtain ⟨g9, c9, e9, _, h9, _⟩ := ip0.shape2 (by simp; omega)
        simp only [Value.slice.injEq, Option.some.injEq, Addr.mk.injEq] at e9
        have := e9.1.1
        omega
      rw [← hC] at ip0
      clear hown hg3 hi hs hg hi0 hz0 hz1' hz2 hgs hzr
      refine Lib.hid ?_
      go_wp2
      rw [← hC]
      clear hC
      go_loopw [10] (fun i wr => ∃ (p : List Syn) (q : Nat), i = .int .i64 q ∧ q ≤ 2 * n ∧ p.length = n ∧ DrS w C n g (2 * n) cap' L b (k + 1 + 2 * n + q) (.slice a len cap) wr p) (fun i _ => 2 * n - (intOf i).toNat)
      case atStart => exact ⟨_, 0, rfl, Nat.zero_le _, by simp, ip0, il0, is0, G3, zC3⟩
      case round =>
        clear ip0 il0 is0 G3 zC3
        rename_i wx
        obtain ⟨p, q, rfl, hq, hpl, hD⟩ := hrel
        have hzr := hD.2.2.2.1.size
        have hzC := hD.2.2.2.2
        have il := hD.2.1
        by_cases hlt : q < 2 * n
        · have hlq : (q : Int) < 2 * (n : Int) := by omega
          have hLl := HLB.out.1
          obtain ⟨qi, hqi⟩ : ∃ x : Int, x = (q : Int) := ⟨_, rfl⟩
          have cq : wr.cell? ⟨g, qi.toNat, none⟩ = some (.int .i64 (L.getD q 0)) := by rw [hqi, Int.toNat_natCast]; exact il.cell q (by omega)
          obtain ⟨bq1, bq2⟩ := HLB.out.2.1 q hlt
          generalize L.getD q 0 = y at *
          rw [← hqi] at hlq
          have hqi0 : 0 ≤ qi := by omega
          have hqi1 : qi < ((2 * n : Nat) : Int) := by omega
          obtain ⟨yd, hyd⟩ : ∃ x, y.tdiv 2 = x := ⟨_, rfl⟩
          obtain ⟨ym, hym⟩ : ∃ x, y.tmod 2 = x := ⟨_, rfl⟩
          obtain ⟨qd, hqd⟩ : ∃ x, qi.tdiv 2 = x := ⟨_, rfl⟩
          obtain ⟨qm, hqm⟩ : ∃ x, qi.tmod 2 = x := ⟨_, rfl⟩
          have eyd : yd = y / 2 := by rw [← hyd, Int.tdiv_eq_ediv_of_nonneg bq1]
          have eqd : qd = qi / 2 := by rw [← hqd, Int.tdiv_eq_ediv_of_nonneg (by omega)]
          have HMM := Lib.hid (fun W => l02Mod_any (yd - qd) n W (by omega) (by omega) (by omega) (by omega))
          have ht0 := Int.emod_nonneg (yd - qd) (show (n : Int) ≠ 0 by omega)
          have ht1 := Int.emod_lt_of_pos (yd - qd) (show (0 : Int) < n by omega)
          have bd : 0 ≤ yd ∧ yd ≤ 6 ∧ 0 ≤ qd ∧ qd ≤ 6 := by omega
          obtain ⟨bd1, bd2, bd3, bd4⟩ := bd
          have HQI := Lib.hid hqi
          have eym : ym = y % 2 := by rw [← hym, Int.tmod_eq_emod_of_nonneg bq1]
          have eqm : qm = qi % 2 := by rw [← hqm, Int.tmod_eq_emod_of_nonneg (by omega)]
          have hw1 : IntKind.i64.wrap yd = yd := IntWalk.i64_in _ (by omega)
          have hw2 : IntKind.i64.wrap qd = qd := IntWalk.i64_in _ (by omega)
          have hw3 : IntKind.i64.wrap (yd - qd) = yd - qd := IntWalk.i64_in _ (by omega)
          have hw4 : IntKind.i64.wrap ym = ym := IntWalk.i64_in _ (by omega)
          have hw5 : IntKind.i64.wrap qm = qm := IntWalk.i64_in _ (by omega)
          have HEQ := Lib.hid (show qd = ((q / 2 : Nat) : Int) ∧ qm = ((q % 2 : Nat) : Int) from by omega)
          clear eyd eqd hLl eym eqm
          generalize (yd - qd) % (n : Int) = r at *
          have hw6 : IntKind.i64.wrap (2 * r) = 2 * r := IntWalk.i64_in _ (by omega)
          generalize hcb : (ym != qm) = cb at *
          rw [← hqi]
          clear hqi
          have HCELL := Lib.hid (fun W (hW : Below wr.heap.size wr W) => (hW.cell (p := ⟨g, qi.toNat, none⟩) (cell_block cq)).trans cq)
          go_wp2
          go_region_held3 (fun W => Below wr.heap.size wr W ∧ W.cell? ⟨g, qi.toNat, none⟩ = some (.int .i64 y)) (refine ⟨?_, HCELL.out _ ?_⟩ <;> (repeat (first | assumption | exact Below.refl _ _ | refine Below.drew ?_ | refine below_drewN ?_ _ | refine bel_al ?_ (Nat.le_refl _) _ | refine Below.setCell ?_ (by simp) _))) (first | (go_at_call 157; (with_reducible refine (HMM.out _).mono ?_); rintro e w' ⟨rfl, rfl⟩))
          all_goals
            have hbX : Below wr.heap.size wr (wr.alloc (.cells #[.int .i64 (2 * r), .bool cb] 113)).drew := Below.drew (bel_al (Below.refl _ _) (Nat.le_refl _) _)
            have x0 : (wr.alloc (.cells #[.int .i64 (2 * r), .bool cb] 113)).drew.cell? ⟨wr.heap.size, 0, none⟩ = some (.int .i64 (2 * r)) := by simp
            have x1 : (wr.alloc (.cells #[.int .i64 (2 * r), .bool cb] 113)).drew.cell? ⟨wr.heap.size, 1, none⟩ = some (.bool cb) := by simp
            have xf : (wr.alloc (.cells #[.int .i64 (2 * r), .bool cb] 113)).drew.frozen? ⟨wr.heap.size, 0, none⟩ = false := by simp
            generalize (wr.alloc (.cells #[.int .i64 (2 * r), .bool cb] 113)).drew = X at *
            have hX := hD.below hbX
            have zX : wr.heap.size + 1 ≤ X.heap.size := by have := cell_block x0; simp at this; omega
            have bv : 0 ≤ 2 * r ∧ 2 * r ≤ 4 := by omega
            obtain ⟨bv0, bv1⟩ := bv
            have hqp : qm = 0 ∨ qm = 1 := by have := HEQ.out.2; omega
            have hqdl : qd.toNat < p.length := by have := HEQ.out.1; omega
            have hqdn : qd < (n : Int) := by have := HEQ.out.1; omega
            have hc1 : wr.heap.size ≠ C := by omega
            have hc2 : wr.heap.size ≠ g := by omega
            have hc3 : wr.heap.size ≠ b := by omega
            have hc4 : w.heap.size ≤ wr.heap.size := by omega
            have hc5 : C ≠ wr.heap.size := by omega
            have hcg : C ≠ g := by omega
            have hcb' : C ≠ b := by omega
            have HO := one_any a len cap b (k + 1 + 2 * n + q) 2 zs X hX.2.2.1 (HROW.out _ hX.2.2.2.1) hlen (by omega) (by omega)
            clear hbX hD HCELL HMM cq hcb hw6 ht0 ht1 il HEQ
            generalize 2 * r = val at *
            by_cases h0 : val = 0
            · subst h0
              cases cb with
              | true =>
                clear HO
                rcases hqp with rfl | rfl
                · skip
                  obtain ⟨d0, d1, d2, d3⟩ := hX.1.four qd.toNat hqdl
                  have e0 := hX.1.free (qd.toNat * 4)
                  have e1 := hX.1.free (qd.toNat * 4 + 1)
                  have HF := Lib.hid (fun (v0 : Value) (v : Int) (c : Bool) => (hX.tset (tb := wr.heap.size) hc1 hc2 hc3 hc4 0 v0).left hcg hcb' hCw qd.toNat v c hqdl)
                  clear hX
                  generalize p.getD qd.toNat s0 = z at *
                  go_wp2
                  go_roundw
                  case rel => exact ⟨_, q + 1, by have := HQI.out; go_num, by omega, by simp [hpl], (HF.out _ _ _).1, (HF.out _ _ _).2.1, ((HF.out _ _ _).2.2.1).mono (by omega), (HF.out _ _ _).2.2.2.1, (HF.out _ _ _).2.2.2.2⟩
                  case measure => have := HQI.out; simp [intOf]; omega
                · skip
                  obtain ⟨d0, d1, d2, d3⟩ := hX.1.four qd.toNat hqdl
                  have e0 := hX.1.free (qd.toNat * 4 + 2)
                  have e1 := hX.1.free (qd.toNat * 4 + 3)
                  have HF := Lib.hid (fun (v0 : Value) (v : Int) (c : Bool) => (hX.tset (tb := wr.heap.size) hc1 hc2 hc3 hc4 0 v0).right hcg hcb' hCw qd.toNat v c hqdl)
                  clear hX
                  generalize p.getD qd.toNat s0 = z at *
                  go_wp2
                  go_roundw
                  case rel => exact ⟨_, q + 1, by have := HQI.out; go_num, by omega, by simp [hpl], (HF.out _ _ _).1, (HF.out _ _ _).2.1, ((HF.out _ _ _).2.2.1).mono (by omega), (HF.out _ _ _).2.2.2.1, (HF.out _ _ _).2.2.2.2⟩
                  case measure => have := HQI.out; simp [intOf]; omega
              | false =>
                go_wp2_with fail
                refine HO.mono ?_
                rintro e w5 ⟨x5, rfl, s5, g5⟩
                have hD5 := hX.more g5 s5 hbC hbw
                have y0 := (g5.cell x0 (by simpa using fun e : wr.heap.size = b => hc3 e)).trans rfl
                have y1 := (g5.cell x1 (by simpa using fun e : wr.heap.size = b => hc3 e)).trans rfl
                have yf : w5.frozen? ⟨wr.heap.size, 0, none⟩ = false := (World.frozen?_of_block (g5.block wr.heap.size (by omega) (by simpa using fun e : wr.heap.size = b => hc3 e))).trans xf
                clear HO hX g5 s5 x0 x1 xf
                cases x5 with
                | true =>
                  rcases hqp with rfl | rfl
                  · skip
                    obtain ⟨d0, d1, d2, d3⟩ := hD5.1.four qd.toNat hqdl
                    have e0 := hD5.1.free (qd.toNat * 4)
                    have e1 := hD5.1.free (qd.toNat * 4 + 1)
                    have HF := Lib.hid (fun (v0 : Value) (v : Int) (c : Bool) => (hD5.tset (tb := wr.heap.size) hc1 hc2 hc3 hc4 0 v0).left hcg hcb' hCw qd.toNat v c hqdl)
                    clear hD5
                    generalize p.getD qd.toNat s0 = z at *
                    go_wp2
                    go_roundw
                    case rel => exact ⟨_, q + 1, by have := HQI.out; go_num, by omega, by simp [hpl], (HF.out _ _ _).1, (HF.out _ _ _).2.1, ((HF.out _ _ _).2.2.1).mono (by omega), (HF.out _ _ _).2.2.2.1, (HF.out _ _ _).2.2.2.2⟩
                    case measure => have := HQI.out; simp [intOf]; omega
                  · skip
                    obtain ⟨d0, d1, d2, d3⟩ := hD5.1.four qd.toNat hqdl
                    have e0 := hD5.1.free (qd.toNat * 4 + 2)
                    have e1 := hD5.1.free (qd.toNat * 4 + 3)
                    have HF := Lib.hid (fun (v0 : Value) (v : Int) (c : Bool) => (hD5.tset (tb := wr.heap.size) hc1 hc2 hc3 hc4 0 v0).right hcg hcb' hCw qd.toNat v c hqdl)
                    clear hD5
                    generalize p.getD qd.toNat s0 = z at *
                    go_wp2
                    go_roundw
                    case rel => exact ⟨_, q + 1, by have := HQI.out; go_num, by omega, by simp [hpl], (HF.out _ _ _).1, (HF.out _ _ _).2.1, ((HF.out _ _ _).2.2.1).mono (by omega), (HF.out _ _ _).2.2.2.1, (HF.out _ _ _).2.2.2.2⟩
                    case measure => have := HQI.out; simp [intOf]; omega
                | false =>
                  rcases hqp with rfl | rfl
                  · skip
                    obtain ⟨d0, d1, d2, d3⟩ := hD5.1.four qd.toNat hqdl
                    have e0 := hD5.1.free (qd.toNat * 4)
                    have e1 := hD5.1.free (qd.toNat * 4 + 1)
                    have HF := Lib.hid (fun (v : Int) (c : Bool) => hD5.left hcg hcb' hCw qd.toNat v c hqdl)
                    clear hD5
                    generalize p.getD qd.toNat s0 = z at *
                    go_wp2
                    go_roundw
                    case rel => exact ⟨_, q + 1, by have := HQI.out; go_num, by omega, by simp [hpl], (HF.out _ _).1, (HF.out _ _).2.1, ((HF.out _ _).2.2.1).mono (by omega), (HF.out _ _).2.2.2.1, (HF.out _ _).2.2.2.2⟩
                    case measure => have := HQI.out; simp [intOf]; omega
                  · skip
                    obtain ⟨d0, d1, d2, d3⟩ := hD5.1.four qd.toNat hqdl
                    have e0 := hD5.1.free (qd.toNat * 4 + 2)
                    have e1 := hD5.1.free (qd.toNat * 4 + 3)
                    have HF := Lib.hid (fun (v : Int) (c : Bool) => hD5.right hcg hcb' hCw qd.toNat v c hqdl)
                    clear hD5
                    generalize p.getD qd.toNat s0 = z at *
                    go_wp2
                    go_roundw
                    case rel => exact ⟨_, q + 1, by have := HQI.out; go_num, by omega, by simp [hpl], (HF.out _ _).1, (HF.out _ _).2.1, ((HF.out _ _).2.2.1).mono (by omega), (HF.out _ _).2.2.2.1, (HF.out _ _).2.2.2.2⟩
                    case measure => have := HQI.out; simp [intOf]; omega
            · have h0' : (val == 0) = false := by simpa using h0
              clear h0
              go_wp2_with fail
              refine HO.mono ?_
              rintro e w5 ⟨x5, rfl, s5, g5⟩
              have hD5 := hX.more g5 s5 hbC hbw
              have y0 := (g5.cell x0 (by simpa using fun e : wr.heap.size = b => hc3 e)).trans rfl
              have y1 := (g5.cell x1 (by simpa using fun e : wr.heap.size = b => hc3 e)).trans rfl
              have yf : w5.frozen? ⟨wr.heap.size, 0, none⟩ = false := (World.frozen?_of_block (g5.block wr.heap.size (by omega) (by simpa using fun e : wr.heap.size = b => hc3 e))).trans xf
              clear HO hX g5 s5 x0 x1 xf
              cases x5 with
              | true =>
                rcases hqp with rfl | rfl
                · skip
                  obtain ⟨d0, d1, d2, d3⟩ := hD5.1.four qd.toNat hqdl
                  have e0 := hD5.1.free (qd.toNat * 4)
                  have e1 := hD5.1.free (qd.toNat * 4 + 1)
                  have HF := Lib.hid (fun (v0 : Value) (v : Int) (c : Bool) => (hD5.tset (tb := wr.heap.size) hc1 hc2 hc3 hc4 0 v0).left hcg hcb' hCw qd.toNat v c hqdl)
                  clear hD5
                  generalize p.getD qd.toNat s0 = z at *
                  go_wp2
                  go_roundw
                  case rel => exact ⟨_, q + 1, by have := HQI.out; go_num, by omega, by simp [hpl], (HF.out _ _ _).1, (HF.out _ _ _).2.1, ((HF.out _ _ _).2.2.1).mono (by omega), (HF.out _ _ _).2.2.2.1, (HF.out _ _ _).2.2.2.2⟩
                  case measure => have := HQI.out; simp [intOf]; omega
                · skip
                  obtain ⟨d0, d1, d2, d3⟩ := hD5.1.four qd.toNat hqdl
                  have e0 := hD5.1.free (qd.toNat * 4 + 2)
                  have e1 := hD5.1.free (qd.toNat * 4 + 3)
                  have HF := Lib.hid (fun (v0 : Value) (v : Int) (c : Bool) => (hD5.tset (tb := wr.heap.size) hc1 hc2 hc3 hc4 0 v0).right hcg hcb' hCw qd.toNat v c hqdl)
                  clear hD5
                  generalize p.getD qd.toNat s0 = z at *
                  go_wp2
                  go_roundw
                  case rel => exact ⟨_, q + 1, by have := HQI.out; go_num, by omega, by simp [hpl], (HF.out _ _ _).1, (HF.out _ _ _).2.1, ((HF.out _ _ _).2.2.1).mono (by omega), (HF.out _ _ _).2.2.2.1, (HF.out _ _ _).2.2.2.2⟩
                  case measure => have := HQI.out; simp [intOf]; omega
              | false =>
                rcases hqp with rfl | rfl
                · skip
                  obtain ⟨d0, d1, d2, d3⟩ := hD5.1.four qd.toNat hqdl
                  have e0 := hD5.1.free (qd.toNat * 4)
                  have e1 := hD5.1.free (qd.toNat * 4 + 1)
                  have HF := Lib.hid (fun (v : Int) (c : Bool) => hD5.left hcg hcb' hCw qd.toNat v c hqdl)
                  clear hD5
                  generalize p.getD qd.toNat s0 = z at *
                  go_wp2
                  go_roundw
                  case rel => exact ⟨_, q + 1, by have := HQI.out; go_num, by omega, by simp [hpl], (HF.out _ _).1, (HF.out _ _).2.1, ((HF.out _ _).2.2.1).mono (by omega), (HF.out _ _).2.2.2.1, (HF.out _ _).2.2.2.2⟩
                  case measure => have := HQI.out; simp [intOf]; omega
                · skip
                  obtain ⟨d0, d1, d2, d3⟩ := hD5.1.four qd.toNat hqdl
                  have e0 := hD5.1.free (qd.toNat * 4 + 2)
                  have e1 := hD5.1.free (qd.toNat * 4 + 3)
                  have HF := Lib.hid (fun (v : Int) (c : Bool) => hD5.right hcg hcb' hCw qd.toNat v c hqdl)
                  clear hD5
                  generalize p.getD qd.toNat s0 = z at *
                  go_wp2
                  go_roundw
                  case rel => exact ⟨_, q + 1, by have := HQI.out; go_num, by omega, by simp [hpl], (HF.out _ _).1, (HF.out _ _).2.1, ((HF.out _ _).2.2.1).mono (by omega), (HF.out _ _).2.2.2.1, (HF.out _ _).2.2.2.2⟩
                  case measure => have := HQI.out; simp [intOf]; omega
        · obtain rfl : q = 2 * n := by omega
          have hlq : ¬ ((2 * n : Nat) : Int) < 2 * (n : Int) := by omega
          go_wp2
          go_ret
          exact ⟨_, rfl, _, hD.1.mono hCw, by omega, by omega, hD.2.2.1.mono (by omega), hD.2.2.2.1⟩
end Go.Proofs.Ytgjmhihomklooaa

/- Synchronous patterns, the model's: throws, lists, landings, collisions. No conditions. -/
namespace Go.Proofs.Ytgjmhihomklooaa
open Go.RowKit
set_option linter.unusedSimpArgs false
set_option linter.unusedVariables false

theorem okT_low {v : Int} {c : Bool} (h : inB v 0 14 = false) : okT (v, c) = false := by simp [okT, h]
theorem okT_odd {v : Int} {c : Bool} (h : ¬ v % 2 = 0) : okT (v, c) = false := by simp [okT, h]
theorem okT_pos {v : Int} {c : Bool} (h : 0 < v ∧ v ≤ 14) (h2 : v % 2 = 0) : okT (v, c) = true := by
  rw [okT_iff]; exact ⟨by show 0 ≤ v ∧ v ≤ 14; omega, h2, .inl h.1⟩
theorem okT_zero (c : Bool) : okT (0, c) = !c := by cases c <;> decide

set_option maxRecDepth 10000 in
theorem l05Throw_any (v : Int) (c : Bool) (w : World) :
    Calls Try.prog 133 #[.agg #[.int .i64 v, .bool c]] w fun e w' => e = .returned (.bool (okT (v, c))) ∧ Below w.heap.size w w' := by
  have HI := l00In_any v 0 14
  have b1 : Below w.heap.size w (w.alloc (.cells #[.int .i64 v, .bool c] 113)) := (Below.refl _ _).alloc (Nat.le_refl _) _
  cases h : inB v 0 14 with
  | false =>
    rw [okT_low h]
    rw [h] at HI
    go_enter Try.func133, Try.ntmps133
    go_wp2_with fail
    refine (HI _).mono ?_
    rintro e w' ⟨rfl, rfl⟩
    go_wp2
    go_ret
    exact ⟨rfl, b1⟩
  | true =>
    rw [h] at HI
    have hb := inB_iff.1 h
    clear h
    by_cases h2 : v % 2 = 0
    · by_cases h0 : v = 0
      · subst h0
        rw [okT_zero]
        go_enter Try.func133, Try.ntmps133
        go_wp2_with fail
        refine (HI _).mono ?_
        rintro e w' ⟨rfl, rfl⟩
        go_wp2
        go_ret
        exact ⟨rfl, b1⟩
      · rw [okT_pos (by omega) h2]
        have hp : 0 < v := by omega
        have hd : (v % 2 == 0) = true := by simp [h2]
        obtain ⟨hb1, hb2⟩ := hb
        clear h2
        go_enter Try.func133, Try.ntmps133
        go_wp2_with fail
        refine (HI _).mono ?_
        rintro e w' ⟨rfl, rfl⟩
        go_wp2
        go_ret
        exact ⟨rfl, b1⟩
    · rw [okT_odd h2]
      have hd : (v % 2 == 0) = false := by simp [h2]
      obtain ⟨hb1, hb2⟩ := hb
      clear h2
      go_enter Try.func133, Try.ntmps133
      go_wp2_with fail
      refine (HI _).mono ?_
      rintro e w' ⟨rfl, rfl⟩
      go_wp2
      go_ret
      exact ⟨rfl, b1⟩

set_option maxRecDepth 10000 in
set_option maxHeartbeats 400000 in
theorem l05List_row (g cap n : Nat) (p : List Syn) (w : World) (hm : n ≤ 9223372036854775807) (hg : g < w.heap.size) (hn : n = p.length) (hc : ∀ i, i < n → Four w g (i * 4) (p.getD i s0)) :
    Calls Try.prog 86 #[.slice (some ⟨g, 0, none⟩) n cap] w fun e w' => e = .returned (.bool (okSL p)) ∧ Below w.heap.size w w' := by
  have HB := Lib.hid (fun i (hi : i < n) (h : (okT (p.getD i s0).1 && okT (p.getD i s0).2) = false) => okSL_bad i (by omega) h)
  have HI := l00In_any (n : Int) 1 6
  have HF := Lib.hid (fun (h : ∀ i, i < n → okT (p.getD i s0).1 = true ∧ okT (p.getD i s0).2 = true) => show okSL p = inB (n : Int) 1 6 from by
    cases hi : inB (n : Int) 1 6 with
    | true => have := inB_iff.1 hi; exact okSL_good (by omega) (by omega) fun i h' => h i (by omega)
    | false => exact okSL_num fun h' => by rw [inB_true (by omega)] at hi; cases hi)
  have HC := Lib.hid hc
  clear hc hn
  go_enter Try.func86, Try.ntmps86
  go_wp2
  go_loopw [3] (fun i wr => ∃ k : Nat, k ≤ n ∧ i = .int .i64 k ∧ Hid (∀ j, j < k → okT (p.getD j s0).1 = true ∧ okT (p.getD j s0).2 = true) ∧ Below w.heap.size w wr) (fun i _ => n - (intOf i).toNat)
  case atStart => exact ⟨0, Nat.zero_le _, rfl, fun j hj => absurd hj (Nat.not_lt_zero _), Below.refl _ _⟩
  case round =>
    obtain ⟨k, hk, rfl, hall, hb⟩ := hrel
    by_cases hlt : k < n
    · obtain ⟨c0, c1, c2, c3⟩ := (HC.out k hlt).below hb hg
      have HBK := Lib.hid (HB.out k hlt)
      have HNX := Lib.hid (fun (h : okT (p.getD k s0).1 = true ∧ okT (p.getD k s0).2 = true) => show ∀ j, j < k + 1 → okT (p.getD j s0).1 = true ∧ okT (p.getD j s0).2 = true from fun j hj => by
        by_cases e : j = k
        · subst e; exact h
        · exact hall.out j (by omega))
      clear HC HB HF HI
      generalize p.getD k s0 = y at *
      obtain ⟨⟨y0, y1⟩, y2, y3⟩ := y
      simp only at c0 c1 c2 c3 HBK HNX
      have HT1 := fun W => l05Throw_any y0 y1 W
      have HT2 := fun W => l05Throw_any y2 y3 W
      have HCL := Lib.hid (fun W (hW : Below wr.heap.size wr W) => (show Four wr g (k * 4) ((y0, y1), (y2, y3)) from ⟨c0, c1, c2, c3⟩).below hW (by have := hb.size; omega))
      cases h1 : okT (y0, y1) with
      | false =>
        rw [h1] at HT1 HBK
        have HR := Lib.hid (HBK.out rfl)
        clear h1 HT2 HBK HNX
        go_wp2_with fail
        refine (HT1 _).mono ?_
        rintro e w1 ⟨rfl, b1⟩
        replace hb := hb.trans (b1.mono hb.size)
        clear HT1
        go_wp2
        go_ret
        exact ⟨by rw [HR.out]; rfl, hb⟩
      | true =>
        rw [h1] at HT1 HBK
        cases h2 : okT (y2, y3) with
        | false =>
          rw [h2] at HT2 HBK
          have HR := Lib.hid (HBK.out rfl)
          clear h1 h2 HBK HNX
          go_wp2_with fail
          refine (HT1 _).mono ?_
          rintro e w1 ⟨rfl, b1⟩
          obtain ⟨d0, d1, d2, d3⟩ := HCL.out w1 b1
          replace hb := hb.trans (b1.mono hb.size)
          clear HT1 c0 c1 c2 c3
          go_wp2_with fail
          refine (HT2 _).mono ?_
          rintro e w2 ⟨rfl, b2⟩
          replace hb := hb.trans (b2.mono hb.size)
          go_wp2
          go_ret
          exact ⟨by rw [HR.out]; rfl, hb⟩
        | true =>
          rw [h2] at HT2
          have HN := Lib.hid (HNX.out ⟨h1, h2⟩)
          clear h1 h2 HBK HNX
          go_wp2_with fail
          refine (HT1 _).mono ?_
          rintro e w1 ⟨rfl, b1⟩
          obtain ⟨d0, d1, d2, d3⟩ := HCL.out w1 b1
          replace hb := hb.trans (b1.mono hb.size)
          clear HT1 c0 c1 c2 c3
          go_wp2_with fail
          refine (HT2 _).mono ?_
          rintro e w2 ⟨rfl, b2⟩
          replace hb := hb.trans (b2.mono hb.size)
          go_wp2
          go_roundw
          case rel => exact ⟨k + 1, by omega, by go_num, HN, hb⟩
          case measure => simp [intOf]; omega
    · obtain rfl : k = n := by omega
      have HR := Lib.hid (HF.out hall.out)
      clear HC HB HF hall
      go_wp2_with fail
      refine (HI _).mono ?_
      rintro e w' ⟨rfl, rfl⟩
      go_wp2
      go_ret
      exact ⟨by rw [HR.out]; rfl, hb⟩

set_option maxRecDepth 10000 in
theorem l05List_zero (a : Option Addr) (cap : Nat) (w : World) :
    Calls Try.prog 86 #[.slice a 0 cap] w fun e w' => e = .returned (.bool false) ∧ Below w.heap.size w w' := by
  have HI := l00In_any 0 1 6
  rw [show inB 0 1 6 = false from by decide] at HI
  go_enter Try.func86, Try.ntmps86
  go_wp2
  refine wp_loop_rounds 1 ?_
  rw [rounds_succ]
  go_wp2_with fail
  refine (HI _).mono ?_
  rintro e w' ⟨rfl, rfl⟩
  go_wp2
  go_ret
  exact ⟨rfl, Below.refl _ _⟩

theorem l05List_any (v : Value) (B : Nat) (p : List Syn) (w : World) (h : Syns w B v p) :
    Calls Try.prog 86 #[v] w fun e w' => e = .returned (.bool (okSL p)) ∧ Below w.heap.size w w' := by
  rcases h.shape with ⟨rfl, rfl⟩ | ⟨g, cap, rfl, _, hg, _, _⟩
  · exact l05List_zero _ _ _
  · exact l05List_row g cap p.length p w h.len hg rfl fun i hi => h.four i hi

/-! ### throws by their numbers -/
/-- a walk is told of the beats: their cells -/
def Beats (w : World) (g n : Nat) (p : List Syn) : Prop := ∀ i, i < n → Four w g (i * 4) (p.getD i s0)
theorem Beats.below {w w' : World} {N g n : Nat} {p : List Syn} (h : Beats w g n p) (hb : Below N w w') (hg : g < N) : Beats w' g n p := fun i hi => (h i hi).below hb hg
theorem OwnK.beats {w : World} {B g n cap : Nat} {p : List Syn} (h : Syns w B (.slice (some ⟨g, 0, none⟩) n cap) p) : Beats w g n p := fun i hi => h.four i (by have := h.num; omega)

set_option maxRecDepth 10000 in
theorem l05At_row (g cap n k : Nat) (p : List Syn) (w : World) (hn : n = p.length) (hn9 : n ≤ 1000000) (hk : k < 2 * n) (hg : g < w.heap.size) (hc : Beats w g n p) :
    Calls Try.prog 159 #[.slice (some ⟨g, 0, none⟩) n cap, .int .i64 k] w fun e w' => e = .returned (.agg #[.int .i64 ((thrs p).getD k t0).1, .bool ((thrs p).getD k t0).2]) ∧ Below w.heap.size w w' := by
  obtain ⟨c0, c1, c2, c3⟩ := hc (k / 2) (by omega)
  have b1 : Below w.heap.size w (w.alloc (.cells #[.int .i64 0, .bool false] 113)) := (Below.refl _ _).alloc (Nat.le_refl _) _
  rcases Nat.mod_two_eq_zero_or_one k with e | e
  · have e2 := thrs_even p (k / 2) (by omega)
    rw [show 2 * (k / 2) = k by omega] at e2
    rw [e2]
    clear hc e2
    generalize p.getD (k / 2) s0 = y at *
    obtain ⟨⟨y0, y1⟩, y2, y3⟩ := y
    simp only at c0 c1 c2 c3 ⊢
    have hm : ((k : Int) % 2 == 0) = true := by simp; omega
    go_enter Try.func159, Try.ntmps159
    go_wp2
    refine bodyPost_ret (v := .agg #[.int .i64 y0, .bool y1]) (by simp [results, Try.results159, go_sem]) rfl ?_
    exact ⟨rfl, (Below.refl _ _).alloc (Nat.le_refl _) _⟩
  · have e2 := thrs_odd p (k / 2) (by omega)
    rw [show 2 * (k / 2) + 1 = k by omega] at e2
    rw [e2]
    clear hc e2
    generalize p.getD (k / 2) s0 = y at *
    obtain ⟨⟨y0, y1⟩, y2, y3⟩ := y
    simp only at c0 c1 c2 c3 ⊢
    have hm : ((k : Int) % 2 == 0) = false := by simp; omega
    go_enter Try.func159, Try.ntmps159
    go_wp2
    refine bodyPost_ret (v := .agg #[.int .i64 y2, .bool y3]) (by simp [results, Try.results159, go_sem]) rfl ?_
    exact ⟨rfl, (Below.refl _ _).alloc (Nat.le_refl _) _⟩

theorem land_eq (k v n : Int) (hv : v % 2 = 0) (hn : 0 < n) : (k / 2 + v / 2) % n * 2 + k % 2 = (k + v) % (2 * n) := by
  have e0 := Int.emod_nonneg (k / 2 + v / 2) (show n ≠ 0 by omega)
  have e1 := Int.emod_lt_of_pos (k / 2 + v / 2) hn
  have e2 := Int.mul_ediv_add_emod (k / 2 + v / 2) n
  have e3 : k + v = ((k / 2 + v / 2) % n * 2 + k % 2) + (2 * n) * ((k / 2 + v / 2) / n) := by
    rw [Int.mul_assoc]; omega
  rw [e3, Int.add_mul_emod_self_left]
  exact (Int.emod_eq_of_lt (by omega) (by omega)).symm
theorem land_plain {p : List Syn} {k : Nat} (h : okSL p = true) (hk : k < 2 * p.length) (hc : ((thrs p).getD k t0).2 = false) : lndS p k = ((k : Int) / 2 + ((thrs p).getD k t0).1 / 2) % (p.length : Int) * 2 + (k : Int) % 2 := by
  rw [lndS_plain hc, land_eq _ _ _ (okT_iff.1 (okSL_thr h k hk)).2.1 (by omega)]
theorem land_cross {p : List Syn} {k : Nat} (h : okSL p = true) (hk : k < 2 * p.length) (hc : ((thrs p).getD k t0).2 = true) : lndS p k = ((k : Int) / 2 + ((thrs p).getD k t0).1 / 2) % (p.length : Int) * 2 + (1 - (k : Int) % 2) := by
  rw [lndS_cross hc, ← land_eq _ _ _ (okT_iff.1 (okSL_thr h k hk)).2.1 (by omega)]
  unfold oth
  split <;> omega

set_option maxRecDepth 10000 in
theorem l05Land_row (g cap n k : Nat) (p : List Syn) (w : World) (hn : n = p.length) (hok : okSL p = true) (hk : k < 2 * n) (hg : g < w.heap.size) (hc : Beats w g n p) :
    Calls Try.prog 135 #[.slice (some ⟨g, 0, none⟩) n cap, .int .i64 k] w fun e w' => e = .returned (.int .i64 (lndS p k)) ∧ Below w.heap.size w w' := by
  have hl := okSL_len hok
  have ht := (okT_iff.1 (okSL_thr hok k (by omega))).1
  have HA := fun W (hW : Below w.heap.size w W) => l05At_row g cap n k p W hn (by omega) hk (by have := hW.size; omega) (hc.below hW hg)
  have e0 := Int.emod_nonneg ((k : Int) / 2 + ((thrs p).getD k t0).1 / 2) (show (n : Int) ≠ 0 by omega)
  have e1 := Int.emod_lt_of_pos ((k : Int) / 2 + ((thrs p).getD k t0).1 / 2) (show 0 < (n : Int) by omega)
  cases hx : ((thrs p).getD k t0).2 with
  | false =>
    have hv := land_plain hok (by omega) hx
    rw [← hn] at hv hl
    rw [hv]
    rw [hx] at HA
    clear hc hok hv hx hn
    generalize ((thrs p).getD k t0).1 = v at *
    go_enter Try.func135, Try.ntmps135
    go_wp2_with fail
    refine (HA _ (Below.refl _ _)).mono ?_
    rintro e w1 ⟨rfl, b1⟩
    have b2 := b1.alloc b1.size (.cells #[.int .i64 v, .bool false] 113)
    clear HA
    go_wp2
    go_ret
    exact ⟨rfl, b2⟩
  | true =>
    have hv := land_cross hok (by omega) hx
    rw [← hn] at hv hl
    rw [hv]
    rw [hx] at HA
    clear hc hok hv hx hn
    generalize ((thrs p).getD k t0).1 = v at *
    go_enter Try.func135, Try.ntmps135
    go_wp2_with fail
    refine (HA _ (Below.refl _ _)).mono ?_
    rintro e w1 ⟨rfl, b1⟩
    have b2 := b1.alloc b1.size (.cells #[.int .i64 v, .bool true] 113)
    clear HA
    go_wp2
    go_ret
    exact ⟨rfl, b2⟩

set_option maxRecDepth 10000 in
set_option maxHeartbeats 400000 in
theorem l05Clash_core (g cap n m : Nat) (h : Nat → Int) (a b : Int) (w : World) (hm : m = 2 * n) (hn1 : 1 ≤ n) (hn2 : n ≤ 6)
    (HL : ∀ k, k < m → ∀ W, Below w.heap.size w W → Calls Try.prog 135 #[.slice (some ⟨g, 0, none⟩) n cap, .int .i64 k] W fun e w' => e = .returned (.int .i64 (h k)) ∧ Below W.heap.size W w')
    (hs : ∀ i k, k < m → i < k → distinct h k → h i = h k → (∀ j, j < i → h j ≠ h k) → a = (i : Int) ∧ b = (k : Int)) (ho : distinct h m → a = -1 ∧ b = -1) :
    Calls Try.prog 89 #[.slice (some ⟨g, 0, none⟩) n cap] w fun e w' => e = .returned (.tuple #[.int .i64 a, .int .i64 b]) ∧ Below w.heap.size w w' := by
  have HS := Lib.hid hs
  have HO := Lib.hid ho
  have HLL := Lib.hid HL
  have HM := Lib.hid hm
  clear hs ho HL hm
  go_enter Try.func89, Try.ntmps89
  go_wp2
  go_loopw [4] (fun i wr => ∃ k : Nat, 1 ≤ k ∧ k ≤ 2 * n ∧ i = .int .i64 k ∧ Hid (distinct h k) ∧ Below w.heap.size w wr) (fun i _ => 2 * n - (intOf i).toNat)
  case atStart => exact ⟨1, Nat.le_refl _, by omega, rfl, fun a b hab hb => by omega, Below.refl _ _⟩
  case round =>
    obtain ⟨k, hk1, hk, rfl, hd, hb⟩ := hrel
    by_cases hlt : k < 2 * n
    · have hlt' : (k : Int) < 2 * (n : Int) := by omega
      go_wp2
      go_loopw [5] (fun i wr => ∃ j : Nat, j ≤ k ∧ i = .int .i64 j ∧ Hid (∀ t, t < j → h t ≠ h k) ∧ Below w.heap.size w wr) (fun i _ => k - (intOf i).toNat)
      case atStart => exact ⟨0, Nat.zero_le _, rfl, fun t ht => absurd ht (Nat.not_lt_zero _), hb⟩
      case round =>
        clear hb
        obtain ⟨j, hj, rfl, hne, hb⟩ := hrel
        by_cases hjk : j < k
        · have h1 := HLL.out j (by have := HM.out; omega)
          have h2 := HLL.out k (by have := HM.out; omega)
          go_wp2_with fail
          refine (h1 _ hb).mono ?_
          rintro e w1 ⟨rfl, b1⟩
          replace hb := hb.trans (b1.mono hb.size)
          clear h1
          go_wp2_with fail
          refine (h2 _ hb).mono ?_
          rintro e w2 ⟨rfl, b2⟩
          replace hb := hb.trans (b2.mono hb.size)
          clear h2 b1 b2
          by_cases he : h j = h k
          · obtain ⟨ea, eb⟩ := HS.out j k (by have := HM.out; omega) hjk hd.out he hne.out
            have EA := Lib.hid ea
            have EB := Lib.hid eb
            have he' : (h j == h k) = true := by simp [he]
            clear ea eb he
            go_wp2
            go_ret2
            exact ⟨by rw [EA.out, EB.out]; rfl, hb⟩
          · have he' : (h j == h k) = false := by simp [he]
            have HN : Hid (∀ t, t < j + 1 → h t ≠ h k) := fun t ht => by
              by_cases e : t = j
              · subst e; exact he
              · exact hne.out t (by omega)
            clear he
            go_wp2
            go_roundw
            case rel => exact ⟨j + 1, by omega, by go_num, HN, hb⟩
            case measure => simp [intOf]; omega
        · obtain rfl : j = k := by omega
          have HD : Hid (distinct h (j + 1)) := fun a b hab hb => by
            by_cases e : b = j
            · subst e; exact hne.out a hab
            · exact hd.out a b hab (by omega)
          go_wp2
          go_roundw
          case rel => exact ⟨j + 1, by omega, by omega, by go_num, HD, hb⟩
          case measure => simp [intOf]; omega
    · obtain rfl : k = 2 * n := by omega
      obtain ⟨ea, eb⟩ := HO.out (by rw [HM.out]; exact hd.out)
      have EA := Lib.hid ea
      have EB := Lib.hid eb
      clear ea eb
      go_wp2
      go_ret2
      exact ⟨by rw [EA.out, EB.out]; rfl, hb⟩

theorem l05Clash_any (v : Value) (B : Nat) (p : List Syn) (w : World) (h : Syns w B v p) (hok : okSL p = true) :
    Calls Try.prog 89 #[v] w fun e w' => e = .returned (.tuple #[.int .i64 (cl1 (clash (lndS p) (2 * p.length))), .int .i64 (cl2 (clash (lndS p) (2 * p.length)))]) ∧ Below w.heap.size w w' := by
  have hl := okSL_len hok
  obtain ⟨g, cap, rfl, _, hg, _, _⟩ := h.shape2 hl.1
  refine l05Clash_core g cap p.length (2 * p.length) (lndS p) _ _ w rfl hl.1 hl.2 (fun k hk W hW => l05Land_row g cap p.length k p W rfl hok hk (by have := hW.size; omega) (h.beats.below hW hg)) ?_ ?_
  · intro i k hk hi hd he hlt
    rw [clash_some hk hi hd he hlt]
    exact ⟨rfl, rfl⟩
  · intro hd
    rw [clash_none hd]
    exact ⟨rfl, rfl⟩
end Go.Proofs.Ytgjmhihomklooaa

/- Synchronous patterns, the model's, second part: valid patterns, collisions, comparisons, props, crossing throws, mirrors, slides. No conditions. -/
namespace Go.Proofs.Ytgjmhihomklooaa
open Go.RowKit
set_option linter.unusedSimpArgs false
set_option linter.unusedVariables false

theorem l05Ok_any (v : Value) (B : Nat) (p : List Syn) (w : World) (h : Syns w B v p) :
    Calls Try.prog 82 #[v] w fun e w' => e = .returned (.bool (okS p)) ∧ Below w.heap.size w w' := by
  have HL := l05List_any v B p w h
  cases hok : okSL p with
  | false =>
    rw [show okS p = false by simp [okS, hok]]
    rw [hok] at HL
    clear h
    go_enter Try.func82, Try.ntmps82
    go_wp2_with fail
    refine HL.mono ?_
    rintro e w1 ⟨rfl, b1⟩
    go_wp2
    go_ret
    exact ⟨rfl, b1⟩
  | true =>
    have HC := fun W (hW : Below w.heap.size w W) => l05Clash_any v B p W (h.below hW) hok
    have hc := cl1_neg (clash (lndS p) (2 * p.length))
    rw [show okS p = (clash (lndS p) (2 * p.length)).isNone by simp [okS, hok], ← hc]
    rw [hok] at HL
    clear h hc
    generalize cl1 (clash (lndS p) (2 * p.length)) = x at *
    generalize cl2 (clash (lndS p) (2 * p.length)) = y at *
    go_enter Try.func82, Try.ntmps82
    go_wp2_with fail
    refine HL.mono ?_
    rintro e w1 ⟨rfl, b1⟩
    clear HL
    go_wp2_with fail
    refine (HC _ b1).mono ?_
    rintro e w2 ⟨rfl, b2⟩
    replace b1 := b1.trans (b2.mono b1.size)
    clear HC b2
    go_wp2
    go_ret
    exact ⟨rfl, b1⟩

theorem cl3_neg {o : Option (Nat × Nat)} (h : cl1 o < 0) : cl1 o = -1 ∧ cl2 o = -1 ∧ cl3 o = 0 := by
  cases o with
  | none => exact ⟨rfl, rfl, rfl⟩
  | some x => simp only [cl1] at h; omega
theorem cl3_pos {o : Option (Nat × Nat)} (h : ¬ cl1 o < 0) : cl3 o = 9 := by
  cases o with
  | none => simp [cl1] at h
  | some x => rfl

theorem syncClash_spec (v : Value) (B : Nat) (p : List Syn) (w : World) (h : Syns w B v p) :
    Calls Try.prog 37 #[v] w fun e w' => e = .returned (.tuple #[.int .i64 (scA p), .int .i64 (scB p), .int .i64 (scC p)]) ∧ Below w.heap.size w w' := by
  have HL := l05List_any v B p w h
  cases hok : okSL p with
  | false =>
    obtain ⟨e1, e2, e3⟩ := sc_bad hok
    rw [e1, e2, e3]
    rw [hok] at HL
    clear h e1 e2 e3
    go_enter Try.func37, Try.ntmps37
    go_wp2_with fail
    refine HL.mono ?_
    rintro e w1 ⟨rfl, b1⟩
    go_wp2
    go_ret3
    exact ⟨rfl, b1⟩
  | true =>
    have HC := fun W (hW : Below w.heap.size w W) => l05Clash_any v B p W (h.below hW) hok
    obtain ⟨e1, e2, e3⟩ := sc_good hok
    rw [e1, e2, e3]
    rw [hok] at HL
    clear h e1 e2 e3
    generalize clash (lndS p) (2 * p.length) = o at *
    by_cases hn : cl1 o < 0
    · obtain ⟨e1, e2, e3⟩ := cl3_neg hn
      rw [e1, e2] at HC
      rw [e1, e2, e3]
      clear hn e1 e2 e3
      go_enter Try.func37, Try.ntmps37
      go_wp2_with fail
      refine HL.mono ?_
      rintro e w1 ⟨rfl, b1⟩
      clear HL
      go_wp2_with fail
      refine (HC _ b1).mono ?_
      rintro e w2 ⟨rfl, b2⟩
      replace b1 := b1.trans (b2.mono b1.size)
      clear HC b2
      go_wp2
      go_ret3
      exact ⟨rfl, b1⟩
    · rw [cl3_pos hn]
      have hn' : 0 ≤ cl1 o := by omega
      clear hn
      generalize cl1 o = x at *
      generalize cl2 o = y at *
      go_enter Try.func37, Try.ntmps37
      go_wp2_with fail
      refine HL.mono ?_
      rintro e w1 ⟨rfl, b1⟩
      clear HL
      go_wp2_with fail
      refine (HC _ b1).mono ?_
      rintro e w2 ⟨rfl, b2⟩
      replace b1 := b1.trans (b2.mono b1.size)
      clear HC b2
      go_wp2
      go_ret3
      exact ⟨rfl, b1⟩

/-! ### comparing -/
def sameS (p q : List Syn) : Bool := decide (p = q)
theorem syn_ext {a b : List Syn} (hl : a.length = b.length) (h : ∀ i, i < a.length → a.getD i s0 = b.getD i s0) : a = b := by
  apply List.ext_getElem hl
  intro i h1 h2
  have := h i h1
  simpa [h1, h2] using this
theorem sameS_bad {p q : List Syn} (i : Nat) (h : p.getD i s0 ≠ q.getD i s0) : sameS p q = false := by
  unfold sameS
  rw [decide_eq_false_iff_not]
  rintro rfl
  exact h rfl
theorem sameS_good {p q : List Syn} (hl : p.length = q.length) (h : ∀ i, i < p.length → p.getD i s0 = q.getD i s0) : sameS p q = true := decide_eq_true (syn_ext hl h)
theorem sameS_len {p q : List Syn} (hl : p.length ≠ q.length) : sameS p q = false := by
  unfold sameS
  rw [decide_eq_false_iff_not]
  rintro rfl
  exact hl rfl
/-- a beat as a value -/
def synA (s : Syn) : Value := .agg #[.int .i64 s.1.1, .bool s.1.2, .int .i64 s.2.1, .bool s.2.2]

set_option maxRecDepth 10000 in
theorem eq_thr (d : Nat) (a a' : Int) (b b' : Bool) (W : World) : (Op.equalIn (d + 2) 113 (.agg #[.int .i64 a, .bool b]) (.agg #[.int .i64 a', .bool b'])).run Try.prog W = .ok (decide ((a, b) = (a', b'))) W := by
  rw [run_equalIn_struct _ _ _ _ _ (by kernel_rfl) (by kernel_rfl)]
  have ha : decide ((a, b) = (a', b')) = (a == a' && b == b') := by
    by_cases h : a = a' <;> by_cases h' : b = b' <;> simp [h, h']
  rw [ha]
  simp [Program.fieldsOf, Try.underlying113, Try.underlying2, Try.underlying4, Op.eqFields, go_sem]
  by_cases h : a = a' <;> by_cases h' : b = b' <;> simp [h, h']
set_option maxRecDepth 10000 in
theorem neq_syn (s t : Syn) (W : World) : (binOp .neq 115 (synA s) (synA t)).run Try.prog W = .ok (.bool (decide (s ≠ t))) W := by
  obtain ⟨⟨a, b⟩, c, d⟩ := s
  obtain ⟨⟨a', b'⟩, c', d'⟩ := t
  have e1 := fun W => eq_thr 9997 a a' b b' W
  have e2 := fun W => eq_thr 9997 c c' d d' W
  rw [synA, synA, run_neq_struct, run_equalIn_struct _ _ _ _ _ (by kernel_rfl) (by kernel_rfl)]
  have ha : decide (((a, b), (c, d)) ≠ ((a', b'), (c', d'))) = !(decide ((a, b) = (a', b')) && decide ((c, d) = (c', d'))) := by
    by_cases h : (a, b) = (a', b') <;> by_cases h' : (c, d) = (c', d') <;> simp [h, h']
  rw [ha]
  generalize decide ((a, b) = (a', b')) = x at *
  generalize decide ((c, d) = (c', d')) = y at *
  clear ha
  simp [Program.fieldsOf, Try.underlying115, Try.underlying113, Op.eqFields, go_sem, e1, e2]
  cases x <;> cases y <;> simp [e2]

set_option maxRecDepth 10000 in
set_option maxHeartbeats 400000 in
theorem sameSync_row (g g' cap cap' n : Nat) (p q : List Syn) (w : World) (hn9 : n ≤ 9223372036854775807) (hn : n = p.length) (hn' : n = q.length) (hg : g < w.heap.size) (hg' : g' < w.heap.size) (hc : Beats w g n p) (hc' : Beats w g' n q) :
    Calls Try.prog 39 #[.slice (some ⟨g, 0, none⟩) n cap, .slice (some ⟨g', 0, none⟩) n cap'] w fun e w' => e = .returned (.bool (sameS p q)) ∧ Below w.heap.size w w' := by
  have HB := Lib.hid (fun i (h : p.getD i s0 ≠ q.getD i s0) => sameS_bad i h)
  have HG := Lib.hid (fun (h : ∀ i, i < n → p.getD i s0 = q.getD i s0) => sameS_good (p := p) (q := q) (by omega) fun i hi => h i (by omega))
  have HC := Lib.hid hc
  have HC' := Lib.hid hc'
  have hm : Try.prog.eqGuardType Try.prog.depth 115 = false := by kernel_rfl
  clear hc hc' hn hn'
  go_enter Try.func39, Try.ntmps39
  go_wp2
  go_loopw [5] (fun i wr => ∃ k : Nat, k ≤ n ∧ i = .int .i64 k ∧ Hid (∀ j, j < k → p.getD j s0 = q.getD j s0) ∧ Below w.heap.size w wr) (fun i _ => n - (intOf i).toNat)
  case atStart => exact ⟨0, Nat.zero_le _, rfl, fun j hj => absurd hj (Nat.not_lt_zero _), Below.refl _ _⟩
  case round =>
    obtain ⟨k, hk, rfl, hall, hb⟩ := hrel
    by_cases hlt : k < n
    · obtain ⟨c0, c1, c2, c3⟩ := (HC.out k hlt).below hb hg
      obtain ⟨d0, d1, d2, d3⟩ := (HC'.out k hlt).below hb hg'
      have HBK := Lib.hid (HB.out k)
      have HNX := Lib.hid (fun (h : p.getD k s0 = q.getD k s0) => show ∀ j, j < k + 1 → p.getD j s0 = q.getD j s0 from fun j hj => by
        by_cases e : j = k
        · subst e; exact h
        · exact hall.out j (by omega))
      clear HC HC' HB HG
      generalize p.getD k s0 = y at *
      generalize q.getD k s0 = z at *
      have HQ := fun W => neq_syn y z W
      obtain ⟨⟨y0, y1⟩, y2, y3⟩ := y
      obtain ⟨⟨z0, z1⟩, z2, z3⟩ := z
      simp only [synA] at c0 c1 c2 c3 d0 d1 d2 d3 HQ
      by_cases he : ((y0, y1), (y2, y3)) = ((z0, z1), (z2, z3))
      · have HN := Lib.hid (HNX.out he)
        rw [decide_eq_false (fun h => h he)] at HQ
        clear he HBK HNX
        go_wp2
        go_quiet (fail)
        all_goals go_wp2
        all_goals go_roundw
        case rel => exact ⟨k + 1, by omega, by go_num, HN, below_drewN hb _⟩
        case measure => simp [intOf]; omega
      · have HR := Lib.hid (HBK.out he)
        rw [decide_eq_true he] at HQ
        clear he HBK HNX
        go_wp2
        go_quiet (fail)
        all_goals go_wp2
        all_goals go_ret
        all_goals exact ⟨by rw [HR.out]; rfl, below_drewN hb _⟩
    · obtain rfl : k = n := by omega
      have HR := Lib.hid (HG.out hall.out)
      clear HC HC' HB HG hall
      go_wp2
      go_ret
      exact ⟨by rw [HR.out]; rfl, hb⟩

set_option maxRecDepth 10000 in
theorem sameSync_zero (a a' : Option Addr) (cap cap' : Nat) (w : World) :
    Calls Try.prog 39 #[.slice a 0 cap, .slice a' 0 cap'] w fun e w' => e = .returned (.bool true) ∧ Below w.heap.size w w' := by
  go_enter Try.func39, Try.ntmps39
  go_wp2
  refine wp_loop_rounds 1 ?_
  rw [rounds_succ]
  go_wp2
  go_ret
  exact ⟨rfl, Below.refl _ _⟩

set_option maxRecDepth 10000 in
theorem sameSync_diff (a a' : Option Addr) (n n' cap cap' : Nat) (w : World) (h : n ≠ n') (h1 : n ≤ 9223372036854775807) (h2 : n' ≤ 9223372036854775807) :
    Calls Try.prog 39 #[.slice a n cap, .slice a' n' cap'] w fun e w' => e = .returned (.bool false) ∧ Below w.heap.size w w' := by
  have hne : ((n : Int) != (n' : Int)) = true := by simp; omega
  clear h
  go_enter Try.func39, Try.ntmps39
  go_wp2
  go_ret
  exact ⟨rfl, Below.refl _ _⟩

theorem sameSync_spec (v : Value) (B : Nat) (p : List Syn) (u : Value) (B' : Nat) (q : List Syn) (w : World) (h : Syns w B v p) (h' : Syns w B' u q) :
    Calls Try.prog 39 #[v, u] w fun e w' => e = .returned (.bool (sameS p q)) ∧ Below w.heap.size w w' := by
  by_cases hl : p.length = q.length
  · rcases h.shape with ⟨rfl, rfl⟩ | ⟨g, cap, rfl, _, hg, _, _⟩
    · obtain ⟨a', cap', rfl⟩ := h'.sl
      have hq : q = [] := List.length_eq_zero_iff.1 hl.symm
      subst hq
      exact sameSync_zero none a' 0 cap' w
    · rcases h'.shape with ⟨rfl, rfl⟩ | ⟨g', cap', rfl, _, hg', _, _⟩
      · have hp : p = [] := List.length_eq_zero_iff.1 hl
        subst hp
        exact sameSync_zero _ none _ 0 w
      · have h2 := h'.beats
        rw [← hl] at h2 ⊢
        exact sameSync_row g g' cap cap' p.length p q w h.len rfl hl hg hg' h.beats h2
  · rw [sameS_len hl]
    obtain ⟨a, cap, rfl⟩ := h.sl
    obtain ⟨a', cap', rfl⟩ := h'.sl
    exact sameSync_diff _ _ _ _ _ _ w hl h.len h'.len

/-! ### props, crossing throws -/
theorem sumT_pair (l : List Thr) (a b : Thr) : sumT (l ++ [a, b]) = sumT l + (a.1 + b.1) := by
  rw [sumT, sumT, List.map_append, List.sum_append]; simp
theorem sumT_half (p : List Syn) (k : Nat) (hk : k < p.length) : sumT (thrs (p.take (k + 1))) = sumT (thrs (p.take k)) + ((p.getD k s0).1.1 + (p.getD k s0).2.1) := by
  rw [thrs_take p k hk, sumT_pair]
theorem okT_num {t : Thr} (h : okT t = true) : 0 ≤ t.1 ∧ t.1 ≤ 14 := (okT_iff.1 h).1
theorem sumT_halfs {p : List Syn} (h : okSL p = true) (k : Nat) (hk : k ≤ p.length) : 0 ≤ sumT (thrs (p.take k)) ∧ sumT (thrs (p.take k)) ≤ 28 * k := by
  induction k with
  | zero => simp [thrs, sumT]
  | succ k ih =>
    have h1 := ih (by omega)
    have h2 := okSL_at h k (by omega)
    have h3 := okT_num h2.1
    have h4 := okT_num h2.2
    rw [sumT_half p k (by omega)]
    omega

set_option maxRecDepth 10000 in
theorem field_cross (a : Int) (b : Bool) (W : World) : (Instr.field 113 (.agg #[.int .i64 a, .bool b]) 1).run Try.prog W = .ok (.bool b) W := by
  simp [Instr.field, asAgg, go_sem, Try.underlying113, Try.underlying4]
set_option maxRecDepth 10000 in
theorem field_value (a : Int) (b : Bool) (W : World) : (Instr.field 113 (.agg #[.int .i64 a, .bool b]) 0).run Try.prog W = .ok (.int .i64 a) W := by
  simp [Instr.field, asAgg, go_sem, Try.underlying113, Try.underlying2]

end Go.Proofs.Ytgjmhihomklooaa

/- Synchronous patterns, the model's, third part: mirrors, stars, slides. No conditions. -/
namespace Go.Proofs.Ytgjmhihomklooaa
open Go.RowKit
set_option linter.unusedSimpArgs false
set_option linter.unusedVariables false

section
variable {α : Type} {k : Nat} {c : α → List Value} {e : TypeId}
theorem step_append_k (w : World) {ops : Array Oper} {o : Oper} {a : Act} {K : Act → World → Prop} {Q : Exit → Act → World → Prop} {E : Prop} (hgd : o.guard = none) (s x : Operand) (t : TypeId)
    (ho : o.op = .call { callee := .builtin .append, args := #[s, x], argTypes := #[t, t] }) (ht : Try.prog.underlying t = some (.slice e)) (z : Value) (bytes : Nat)
    (hinfo : (Try.prog.info? e).map (fun i => (i.zero, i.size, i.bytes)) = some (some z, k, bytes)) (hzs : z.cells.size = k) (hk0 : 0 < k) (hby : bytes ≤ 1000) (hk : ∀ x, (c x).length = k) (h1c : ∀ x, ∀ u ∈ c x, u.oneCell' = true)
    (B : Nat) (v : Value) (xs : List α) (hs : a.eval s = v) (h : OwnK e k c w B v xs) (ad : Addr) (m cx : Nat) (ys : List α) (hx : a.eval x = .slice (some ad) m cx) (hm : m = ys.length) (hm1 : 1 ≤ m) (hm2 : m ≤ 1000)
    (hcell : ∀ j u, (ys.flatMap c)[j]? = some u → w.cell? (ad.add j) = some u) (hlen : xs.length ≤ 1000000) (hB : B ≤ w.heap.size)
    (hK : ∀ g cap l w', l = xs.length + m → OwnK e k c w' B (.slice (some ⟨g, 0, none⟩) l cap) (xs ++ ys) → (∀ W, Below B W w → Below B W w') → K (a.put o.dst (.slice (some ⟨g, 0, none⟩) l cap)) w') :
    if Region.wanted o (yielded ops a.tmps) = true then Oper.wp Try.prog o a w K Q else E := by
  obtain ⟨i0, hi, hz0, hz1, hz2⟩ := info_parts hinfo
  refine step_append_lies w hgd s x t ho B e i0 z k bytes ht hi hz0 hz1 hz2 hzs hk0 v xs.length _ hs h ad m cx (ys.flatMap c) hx (by rw [flat_len hk, hm]) hcell (fun u hu => by
    obtain ⟨y, _, hy⟩ := List.mem_flatMap.1 hu
    exact h1c y u hy) (by omega) (by unfold maxLen; omega) ?_ hB w.heap.size rfl ?_
  · exact Nat.le_trans (Nat.mul_le_mul (show xs.length + m ≤ 1001000 by omega) hby) (by decide)
  · intro g cap w' h1 h2 _ _
    refine hK g cap (xs.length + m) w' rfl ?_ fun W hW => h.below_grown hW hB h2
    unfold OwnK
    rw [List.length_append, List.flatMap_append, ← hm]
    exact h1
end

theorem lit_syn {W : World} {b : Nat} {a : Int} {x : Bool} {d : Int} {y : Bool} (h0 : W.cell? ⟨b, 0, none⟩ = some (.int .i64 a)) (h1 : W.cell? ⟨b, 1, none⟩ = some (.bool x)) (h2 : W.cell? ⟨b, 2, none⟩ = some (.int .i64 d)) (h3 : W.cell? ⟨b, 3, none⟩ = some (.bool y)) :
    ∀ j u, ([((a, x), (d, y))].flatMap synV)[j]? = some u → W.cell? ((⟨b, 0, none⟩ : Addr).add j) = some u := by
  intro j u hj
  match j, hj with
  | 0, hj => simp [synV] at hj; subst hj; simpa [Addr.add] using h0
  | 1, hj => simp [synV] at hj; subst hj; simpa [Addr.add] using h1
  | 2, hj => simp [synV] at hj; subst hj; simpa [Addr.add] using h2
  | 3, hj => simp [synV] at hj; subst hj; simpa [Addr.add] using h3
  | j + 4, hj => simp [synV] at hj
theorem synV_one (x : Syn) : ∀ u ∈ synV x, u.oneCell' = true := by
  intro u hu
  simp only [synV, List.mem_cons, List.not_mem_nil, or_false] at hu
  rcases hu with rfl | rfl | rfl | rfl <;> rfl

set_option maxRecDepth 10000 in
set_option maxHeartbeats 1000000 in
theorem l05Mirror_row (g cap n : Nat) (p : List Syn) (w : World) (hn9 : n ≤ 6) (hn : n = p.length) (hg : g < w.heap.size) (hc : Beats w g n p) :
    Calls Try.prog 83 #[.slice (some ⟨g, 0, none⟩) n cap] w fun e w' => ∃ a c, e = .returned (.slice a n c) ∧ Syns w' w.heap.size (.slice a n c) (mirS p) ∧ Below w.heap.size w w' := by
  have HC := Lib.hid hc
  have HT := Lib.hid (fun k (hk : k < n) => mirS_take p k (by omega))
  have HF : Hid ((mirS p).take n = mirS p) := List.take_of_length_le (by rw [mirS_len]; omega)
  have HL := Lib.hid (fun k (hk : k ≤ n) => show ((mirS p).take k).length = k from by rw [List.length_take, mirS_len]; omega)
  clear hc hn
  go_enter Try.func83, Try.ntmps83
  go_wp2
  go_loopw [3, 4] (fun o i wr => ∃ (k : Nat) (a : Option Addr) (c : Nat), k ≤ n ∧ i = .int .i64 k ∧ o = .slice a k c ∧ Syns wr w.heap.size (.slice a k c) ((mirS p).take k) ∧ Below w.heap.size w wr) (fun _ i _ => n - (intOf i).toNat)
  case atStart => exact ⟨0, some ⟨w.heap.size, 0, none⟩, 0, Nat.zero_le _, rfl, rfl, OwnK.empty _ _ _ _ (Nat.le_refl _), (Below.refl _ _).alloc (Nat.le_refl _) _⟩
  case round =>
    obtain ⟨k, a, c, hk, rfl, rfl, hI, hb⟩ := hrel
    by_cases hlt : k < n
    · obtain ⟨c0, c1, c2, c3⟩ := (HC.out k hlt).below hb hg
      have HN := Lib.hid (HT.out k hlt)
      have HLL := Lib.hid (HL.out k hk)
      have HII := Lib.hid hI
      clear HC HT HF HL hI
      generalize p.getD k s0 = y at *
      generalize (mirS p).take k = zs at *
      obtain ⟨⟨y0, y1⟩, y2, y3⟩ := y
      simp only at c0 c1 c2 c3
      go_wp2
      go_region_law (first | (refine step_append_k _ rfl _ _ _ rfl Try.underlying44 _ 32 Try.infoSyn rfl (by decide) (by decide) synV_len synV_one w.heap.size _ zs rfl (HII.out.below (by repeat (first | exact Below.refl _ _ | refine Below.drew ?_ | refine below_drewN ?_ _ | refine Below.alloc ?_ (Nat.le_refl _) _))) ⟨wr.heap.size, 0, none⟩ 1 1 [((y2, y3), (y0, y1))] rfl rfl (by decide) (by decide) (lit_syn (by simp) (by simp) (by simp) (by simp)) (by have := HLL.out; omega) (by have := hb.size; simp; omega) ?_; intro g4 c4 l4 w4 hl4 i4 f4))
      all_goals
        have b4 := f4 w (by repeat (first | exact hb | refine Below.drew ?_ | refine below_drewN ?_ _ | refine Below.alloc ?_ (by have := hb.size; simp; omega) _))
        clear f4
        rw [← HN.out] at i4
        clear HII c0 c1 c2 c3
      all_goals go_wp2
      all_goals
        have e := HLL.out
        subst e
        exact ⟨⟨zs.length + 1, _, _, by omega, by go_num, rfl, by rw [hl4] at i4; exact i4, b4⟩, by simp [intOf]; omega⟩
    · obtain rfl : k = n := by omega
      rw [HF.out] at hI
      clear HC HT HF HL
      go_wp2
      go_ret
      exact ⟨_, _, rfl, hI, hb⟩

theorem l05Mirror_any (v : Value) (B : Nat) (p : List Syn) (w : World) (h : Syns w B v p) (h1 : 1 ≤ p.length) (h6 : p.length ≤ 6) :
    Calls Try.prog 83 #[v] w fun e w' => ∃ u, e = .returned u ∧ Syns w' w.heap.size u (mirS p) ∧ Below w.heap.size w w' := by
  obtain ⟨g, cap, rfl, _, hg, _, _⟩ := h.shape2 h1
  exact (l05Mirror_row g cap p.length p w h6 rfl hg h.beats).mono fun e w' ⟨a, c, h1, h2, h3⟩ => ⟨_, h1, h2, h3⟩

set_option maxRecDepth 10000 in
theorem mirrorSync_spec (v : Value) (B : Nat) (p : List Syn) (w : World) (h : Syns w B v p) :
    Calls Try.prog 31 #[v] w fun e w' => ∃ u, e = .returned (.tuple #[u, .int .i64 (okSC p)]) ∧ Syns w' w.heap.size u (mirR p) ∧ Below w.heap.size w w' := by
  have HO := l05Ok_any v B p w h
  cases hok : okS p with
  | false =>
    rw [okSC_false hok, mirR, if_neg (by simp [hok])]
    rw [hok] at HO
    clear h hok
    go_enter Try.func31, Try.ntmps31
    go_wp2_with fail
    refine HO.mono ?_
    rintro e w1 ⟨rfl, b1⟩
    clear HO
    go_wp2
    go_ret2
    exact ⟨_, rfl, OwnK.nil _ _ _ _ _, b1⟩
  | true =>
    rw [okSC_true hok, mirR, if_pos hok]
    rw [hok] at HO
    have hl := okSL_len (okS_list hok)
    have HM := fun W (hW : Below w.heap.size w W) => l05Mirror_any v B p W (h.below hW) hl.1 hl.2
    clear h hok hl
    go_enter Try.func31, Try.ntmps31
    go_wp2_with fail
    refine HO.mono ?_
    rintro e w1 ⟨rfl, b1⟩
    clear HO
    go_wp2_with fail
    refine (HM _ b1).mono ?_
    rintro e w2 ⟨u, rfl, i2, b2⟩
    have i3 := i2.mono b1.size
    replace b1 := b1.trans (b2.mono b1.size)
    clear HM b2 i2
    go_wp2
    go_ret2
    exact ⟨_, rfl, i3, b1⟩

/-! ### slides -/
end Go.Proofs.Ytgjmhihomklooaa

/- Drawn beats that are seldom not a synchronous pattern: l05Bent, and the draws of the laws that call it alone. No conditions. -/
namespace Go.Proofs.Ytgjmhihomklooaa
open Go.RowKit
set_option linter.unusedSimpArgs false
set_option linter.unusedVariables false

theorem append_syn (w0 : World) {ops : Array Oper} {rest : List Oper} {o : Oper} {a : Act} {Q : Exit → Act → World → Prop} (hgd : o.guard = none) (s x : Operand)
    (ho : o.op = .call { callee := .builtin .append, args := #[s, x], argTypes := #[44, 44] }) (B : Nat) (v : Value) (xs : List Syn) (hs : a.eval s = v) (h : Syns w0 B v xs) (y : Syn)
    (hx : a.eval x = .slice (some ⟨w0.heap.size, 0, none⟩) 1 1) (hlen : xs.length ≤ 1000000) (hB : B ≤ w0.heap.size)
    (hK : ∀ v' w', Syns w' B v' (xs ++ [y]) → w0.grownBy w' v.ownBlock → wpList Try.prog ops Q rest (a.put o.dst v') w') :
    wpList Try.prog ops Q (o :: rest) a (w0.alloc (.cells (synV y).toArray 115)) := by
  obtain ⟨i0, hi, hz0, hz1, hz2⟩ := info_parts Try.infoSyn
  refine wpList_append_own (w0.alloc (.cells (synV y).toArray 115)) hgd s x 44 ho B 115 i0 (.agg #[.int .i64 0, .bool false, .int .i64 0, .bool false]) 4 32 Try.underlying44 hi hz0 hz1 hz2 rfl (by decide) v xs.length _ hs (World.ownsRow.alloc h _)
    ⟨w0.heap.size, 0, none⟩ 1 1 (synV y) hx rfl ?_ (synV_one y) (by unfold maxLen; omega) (by omega) (by simp; omega) ?_
  · intro j u hj
    match j, hj with
    | 0, hj => simp [synV] at hj; subst hj; simp [Addr.add, synV]
    | 1, hj => simp [synV] at hj; subst hj; simp [Addr.add, synV]
    | 2, hj => simp [synV] at hj; subst hj; simp [Addr.add, synV]
    | 3, hj => simp [synV] at hj; subst hj; simp [Addr.add, synV]
    | j + 4, hj => simp [synV] at hj
  · intro v' w' h1 h2 _
    refine hK v' w' ?_ ⟨h2.os, h2.tape, h2.output, by have := h2.size; simp at this; omega, fun k hk hne => ?_⟩
    · unfold Syns OwnK
      simpa using h1
    · rw [h2.block k (by simp; omega) hne]
      exact Below.heap_alloc _ _ _ hk

theorem put_left {w : World} {B g n cap : Nat} {p : List Syn} (h : Syns w B (.slice (some ⟨g, 0, none⟩) n cap) p) (i : Nat) (hi : i < p.length) (v : Int) :
    Syns (w.setCell ⟨g, i * 4, none⟩ (.int .i64 v)) B (.slice (some ⟨g, 0, none⟩) n cap) (p.set i ((v, (p.getD i s0).1.2), (p.getD i s0).2)) := h.put synV_len s0 i 0 (.int .i64 v) _ hi (by decide) rfl
theorem put_cross {w : World} {B g n cap : Nat} {p : List Syn} (h : Syns w B (.slice (some ⟨g, 0, none⟩) n cap) p) (i : Nat) (hi : i < p.length) (c : Bool) :
    Syns (w.setCell ⟨g, i * 4 + 3, none⟩ (.bool c)) B (.slice (some ⟨g, 0, none⟩) n cap) (p.set i ((p.getD i s0).1, ((p.getD i s0).2.1, c))) := h.put synV_len s0 i 3 (.bool c) _ hi (by decide) rfl
theorem put_two {w : World} {B g n cap : Nat} {p : List Syn} (h : Syns w B (.slice (some ⟨g, 0, none⟩) n cap) p) (i : Nat) (hi : i < p.length) (v : Int) (c : Bool) :
    Syns ((w.setCell ⟨g, i * 4, none⟩ (.int .i64 v)).setCell ⟨g, i * 4 + 1, none⟩ (.bool c)) B (.slice (some ⟨g, 0, none⟩) n cap) (p.set i ((v, c), (p.getD i s0).2)) := by
  have a2 := (put_left h i hi v).put synV_len s0 i 1 (.bool c) ((v, c), (p.getD i s0).2) (by simpa using hi) (by decide) (by simp [hi, synV])
  simpa [List.set_set] using a2

/-- no beats are no nil slice here -/
def Full (v : Value) (p : List Syn) : Prop := p = [] → ∃ g, v = .slice (some ⟨g, 0, none⟩) 0 0
theorem Full.pos {v : Value} {p : List Syn} (h : 1 ≤ p.length) : Full v p := fun e => by rw [e] at h; simp at h

set_option maxRecDepth 10000 in
set_option maxHeartbeats 4000000 in
theorem l05Bent_any (a : Option Addr) (len cap b k : Nat) (zs : List Int) (w : World) (hs : Src w b k (.slice a len cap)) (hr : IsRow .u8 w a len cap zs) (hab : ∀ x, a = some x → 0 < zs.length → x.block ≠ b) (hlen : len ≤ 1000000000) (hk : k ≤ 900000) :
    Calls Try.prog 80 #[.pointer (some ⟨b, 0, none⟩)] w fun e w' => ∃ v p, e = .returned v ∧ Syns w' w.heap.size v p ∧ p.length ≤ 8 ∧ Full v p ∧ Src w' b (k + 200) (.slice a len cap) ∧ w.grownBy w' (some b) := by
  have HD := l05Draw_any a len cap b k 3 zs w hs hr hab hlen (by omega) (by omega) (by omega)
  have hbw := hs.lt
  have hrow : ∀ wr : World, w.grownBy wr (some b) → IsRow .u8 wr a len cap zs := fun wr hg => hr.grown hg fun x hx h0 => by simpa using hab x hx h0
  have HROW := Lib.hid hrow
  clear hrow hab hr hs
  go_enter Try.func80, Try.ntmps80
  go_wp2_with fail
  refine HD.mono ?_
  rintro e w1 ⟨v, p, rfl, i1, hp1, hp3, s1, g1⟩
  clear HD
  obtain ⟨g, c, rfl, hBg, hgs, hc, hm⟩ := i1.shape2 hp1
  have HP := pick_any a len cap b (k + 100) p.length zs w1 s1 (HROW.out _ g1) hlen (by omega) (by omega)
  clear s1
  go_wp2_with fail
  refine HP.mono ?_
  rintro e w2 ⟨x, rfl, hx, s2, g2⟩
  obtain ⟨j, rfl⟩ : ∃ j : Nat, x = j := ⟨x.toNat, by omega⟩
  have hj : j < p.length := by omega
  have G2 := g1.trans g2
  have i2 := i1.keepb g2 hbw
  clear HP hx g1 g2 i1
  have HP := pick_any a len cap b (k + 100 + 1) 18 zs w2 s2 (HROW.out _ G2) hlen (by omega) (by omega)
  clear s2
  go_wp2_with fail
  refine HP.mono ?_
  rintro e w3 ⟨y, rfl, hy, s3, g3⟩
  have G3 := G2.trans g3
  have i3 := i2.keepb g3 hbw
  have Z3 := G3.size
  clear HP g3 G2 i2
  by_cases h0 : y = 0
  · subst h0
    clear hy
    have HI3 := Lib.hid i3
    have i4 : Ints (w3.alloc (.cells #[.int .i64 (-2), .int .i64 1, .int .i64 3, .int .i64 14, .int .i64 15, .int .i64 16] 2)) w3.heap.size (.slice (some ⟨w3.heap.size, 0, none⟩) 6 6) [-2, 1, 3, 14, 15, 16] := World.ownsRow_lit w3 #[.int .i64 (-2), .int .i64 1, .int .i64 3, .int .i64 14, .int .i64 15, .int .i64 16] 6 (Nat.le_refl _) (by simp [maxLen]) rfl
    have s4 := s3.keep (World.grownBy_alloc w3 (.cells #[.int .i64 (-2), .int .i64 1, .int .i64 3, .int .i64 14, .int .i64 15, .int .i64 16] 2) none) (by simp)
    have G4 : w.grownBy (w3.alloc (.cells #[.int .i64 (-2), .int .i64 1, .int .i64 3, .int .i64 14, .int .i64 15, .int .i64 16] 2)) (some b) := G3.trans (World.grownBy_alloc _ _ _)
    have ip4 := HI3.out.alloc (.cells #[.int .i64 (-2), .int .i64 1, .int .i64 3, .int .i64 14, .int .i64 15, .int .i64 16] 2)
    have HA := among_any a len cap b (k + 100 + 1 + 1) w3.heap.size _ _ zs _ s4 (HROW.out _ G4) hlen (by omega) i4 (by omega) (by simp) (by simp)
    have IP4 := Lib.hid ip4
    have G4' := Lib.hid G4
    clear i3 i4 s4 G4 ip4 s3 G3 HI3
    generalize hn : p.length = n at *
    have HN := Lib.hid hn
    clear hn
    go_wp2_with fail
    refine HA.mono ?_
    rintro e w5 ⟨u, rfl, s5, g5⟩
    have i5 := IP4.out.keepb g5 hbw
    obtain ⟨c5, _, _, _⟩ := i5.four j (by rw [HN.out]; exact hj)
    have f5 := i5.free (j * 4)
    have i6 := put_left i5 j (by rw [HN.out]; exact hj) u
    have G5 := G4'.out.trans g5
    have G6 := grown_new G5 (j * 4) hBg (.int .i64 u)
    have s6 := s5.set (j * 4) (show b ≠ g by omega) (.int .i64 u)
    clear HA i5 IP4 s5 g5 G5
    generalize (p.getD j s0).1.1 = zz at *
    go_wp2
    go_ret
    first | exact ⟨_, rfl, _, i6, by simp; rw [HN.out]; omega, Full.pos (by simp; rw [HN.out]; omega), s6.mono (by omega), G6⟩ | exact ⟨_, _, rfl, i6, by simp; rw [HN.out]; omega, Full.pos (by simp; rw [HN.out]; omega), s6.mono (by omega), G6⟩
  · by_cases h1 : y = 1
    · subst h1
      clear hy h0
      obtain ⟨_, _, _, c4⟩ := i3.four j hj
      have f4 := i3.free (j * 4 + 3)
      have i5 := put_cross i3 j hj (!(p.getD j s0).2.2)
      have G5 := grown_new G3 (j * 4 + 3) hBg (.bool (!(p.getD j s0).2.2))
      have s5 := s3.set (j * 4 + 3) (show b ≠ g by omega) (.bool (!(p.getD j s0).2.2))
      have HL : Hid ((p.set j ((p.getD j s0).1, ((p.getD j s0).2.1, !(p.getD j s0).2.2))).length ≤ 8 ∧ 1 ≤ (p.set j ((p.getD j s0).1, ((p.getD j s0).2.1, !(p.getD j s0).2.2))).length) := by unfold Hid; simp; omega
      generalize p.set j ((p.getD j s0).1, ((p.getD j s0).2.1, !(p.getD j s0).2.2)) = P at *
      generalize (p.getD j s0).2.2 = zz at *
      clear i3 s3 G3
      generalize p.length = n at *
      go_wp2
      go_ret
      first | exact ⟨_, rfl, _, i5, HL.out.1, Full.pos HL.out.2, s5.mono (by omega), G5⟩ | exact ⟨_, _, rfl, i5, HL.out.1, Full.pos HL.out.2, s5.mono (by omega), G5⟩
    · by_cases h2 : y = 2
      · subst h2
        clear hy h0 h1
        have i4 : Syns (w3.alloc (.cells #[] 115)) w.heap.size (.slice (some ⟨w3.heap.size, 0, none⟩) 0 0) [] := OwnK.empty _ _ _ _ Z3
        go_wp2
        go_ret
        first | exact ⟨_, rfl, _, i4, by simp, (fun _ => ⟨_, rfl⟩), (s3.keep (World.grownBy_alloc w3 (.cells #[] 115) none) (by simp)).mono (by omega), G3.trans (World.grownBy_alloc _ _ _)⟩ | exact ⟨_, _, rfl, i4, by simp, (fun _ => ⟨_, rfl⟩), (s3.keep (World.grownBy_alloc w3 (.cells #[] 115) none) (by simp)).mono (by omega), G3.trans (World.grownBy_alloc _ _ _)⟩
      · by_cases h3 : y = 3
        · subst h3
          clear hy h0 h1 h2
          have i4 : Syns (w3.alloc (.cells #[] 115)) w.heap.size (.slice (some ⟨w3.heap.size, 0, none⟩) 0 0) [] := OwnK.empty _ _ _ _ Z3
          have s4 := s3.keep (World.grownBy_alloc w3 (.cells #[] 115) none) (by simp)
          have G4 : w.grownBy (w3.alloc (.cells #[] 115)) (some b) := G3.trans (World.grownBy_alloc _ _ _)
          have HP := pick_any a len cap b (k + 100 + 1 + 1) 2 zs _ s4 (HROW.out _ G4) hlen (by omega) (by omega)
          have I4 := Lib.hid i4
          have G4' := Lib.hid G4
          clear i3 i4 s4 G4 s3 G3
          go_wp2_with fail
          refine HP.mono ?_
          rintro e w5 ⟨u, rfl, hu, s5, g5⟩
          have i5 := I4.out.keepb g5 hbw
          have G5 := G4'.out.trans g5
          obtain ⟨n, hn⟩ : ∃ n : Nat, 6 + u = (n : Int) := ⟨(6 + u).toNat, by omega⟩
          have hn7 : n ≤ 7 := by omega
          have hn6 : 6 ≤ n := by omega
          clear HP I4 g5 hu
          go_wp2
          (try rw [hn])
          clear hn
          go_loopw [3, 5] (fun v i wr => ∃ (q : List Syn) (m : Nat), i = .int .i64 m ∧ q.length + m = n ∧ Syns wr w.heap.size v q ∧ Src wr b (k + 100 + 1 + 1 + 1) (.slice a len cap) ∧ w.grownBy wr (some b)) (fun _ i _ => (intOf i).toNat)
          case atStart => exact ⟨[], n, rfl, by simp, i5, s5, G5⟩
          case round =>
            clear i5 s5 G5
            obtain ⟨q, m, rfl, hlv, hi, hs, hg⟩ := hrel
            have hz := hg.size
            by_cases hlt : 0 < m
            · have HL := Lib.hid (show (q ++ [((4, false), (4, false))] : List Syn).length + (m - 1) = n from by simp; omega)
              have hq9 : q.length ≤ 1000000 := by omega
              go_wp2_with (at_builtin; refine append_syn _ rfl _ _ rfl _ _ _ rfl hi ((4, false), (4, false)) rfl hq9 hz ?_; intro v' w6 i6 g6; refine Hid.out ?_)
              have G6 : w.grownBy w6 (some b) := hg.andThen g6 (fun q hq => .inl (by have := hi.own_ge hq; exact this))
              have s6 := hs.keep g6 (by intro e; have := hi.own_ge e.symm; omega)
              clear hi hs hg g6
              refine Lib.hid ?_
              go_wp2
              go_roundw
              case rel => exact ⟨_, m - 1, by go_num, HL.out, i6, s6, G6⟩
              case measure => simp [intOf]; omega
            · obtain rfl : m = 0 := by omega
              go_wp2
              go_ret
              first | exact ⟨_, rfl, _, hi, by omega, Full.pos (by omega), hs.mono (by omega), hg⟩ | exact ⟨_, _, rfl, hi, by omega, Full.pos (by omega), hs.mono (by omega), hg⟩
        · have e0 : (y == 0) = false := by simpa using h0
          have e1 : (y == 1) = false := by simpa using h1
          have e2 : (y == 2) = false := by simpa using h2
          have e3 : (y == 3) = false := by simpa using h3
          clear h0 h1 h2 h3
          by_cases h4 : y = 4
          · subst h4
            have HP := pick_any a len cap b (k + 100 + 1 + 1) 5 zs w3 s3 (HROW.out _ G3) hlen (by omega) (by omega)
            go_wp2_with fail
            refine HP.mono ?_
            rintro e w4 ⟨z, rfl, hz, s4, g4⟩
            have i4 := i3.keepb g4 hbw
            have G4 := G3.trans g4
            obtain ⟨c40, c41, _, _⟩ := i4.four j hj
            have f4 := i4.free (j * 4)
            have f5 := i4.free (j * 4 + 1)
            have HI := Lib.hid (fun (v : Int) (c : Bool) => put_two i4 j hj v c)
            have HG := Lib.hid (fun (v u : Value) => grown_new (grown_new G4 (j * 4) hBg v) (j * 4 + 1) hBg u)
            have HS := Lib.hid (fun (v u : Value) => (s4.set (j * 4) (show b ≠ g by omega) v).set (j * 4 + 1) (show b ≠ g by omega) u)
            have HL := Lib.hid (fun (v : Int) (c : Bool) => show (p.set j ((v, c), (p.getD j s0).2)).length ≤ 8 ∧ 1 ≤ (p.set j ((v, c), (p.getD j s0).2)).length from by simp; omega)
            clear HP i3 i4 s3 s4 G3 G4 g4
            generalize p.getD j s0 = zq at *
            generalize p.length = n at *
            go_wp2
            go_ret
            first | exact ⟨_, rfl, _, HI.out _ _, (HL.out _ _).1, Full.pos (HL.out _ _).2, (HS.out _ _).mono (by omega), HG.out _ _⟩ | exact ⟨_, _, rfl, HI.out _ _, (HL.out _ _).1, Full.pos (HL.out _ _).2, (HS.out _ _).mono (by omega), HG.out _ _⟩
          · have e4 : (y == 4) = false := by simpa using h4
            clear h4
            go_wp2
            go_ret
            first | exact ⟨_, rfl, _, i3, by omega, Full.pos hp1, s3.mono (by omega), G3⟩ | exact ⟨_, _, rfl, i3, by omega, Full.pos hp1, s3.mono (by omega), G3⟩
end Go.Proofs.Ytgjmhihomklooaa

/- What the laws of synchronous patterns draw: beats; and the model's comparison of parts of lists. Condition: at most 10^9 bytes. -/
namespace Go.Proofs.Ytgjmhihomklooaa
open Go.RowKit
set_option linter.unusedSimpArgs false
set_option linter.unusedVariables false

theorem IsRow.apart {w : World} {k : IntKind} {a : Option Addr} {len cap : Nat} {zs : List Int} (hr : IsRow k w a len cap zs) : ∀ x, a = some x → 0 < zs.length → x.block ≠ w.heap.size := by
  intro x hx h0
  rcases hr with ⟨rfl, _⟩ | ⟨y, rfl, _, _, _, hc, _⟩
  · cases hx
  · cases hx
    have h1 := cell_block (hc 0 h0)
    have e : (Addr.add _ 0).block = _ := show (Addr.add x 0).block = x.block by simp [Addr.add]
    rw [e] at h1
    omega

set_option maxRecDepth 10000 in
theorem f6big_any (a : Option Addr) (len cap : Nat) (w : World) (hl : len ≤ 9223372036854775807) :
    Calls Try.prog 10 #[.slice a len cap] w fun e w' => e = .returned (.bool (decide (4096 < (len : Int)))) ∧ w' = w := by
  go_enter Try.func10, Try.ntmps10
  go_wp2
  go_ret
  exact ⟨by first | rfl | simp, rfl⟩

set_option maxRecDepth 10000 in
theorem drawMirrorSync_any (a : Option Addr) (len cap : Nat) (zs : List Int) (w : World) (hr : IsRow .u8 w a len cap zs) (hlen : len ≤ 1000000000) :
    Calls Try.prog 29 #[.slice a len cap] w fun e w' => ∃ v p, e = .returned v ∧ Syns w' w.heap.size v p ∧ p.length ≤ 8 ∧ Below w.heap.size w w' := by
  have hab := hr.apart
  go_enter Try.func29, Try.ntmps29
  go_wp2_with fail
  refine (l00From_any a len cap _).mono ?_
  rintro e w1 ⟨rfl, s1, z1, b1⟩
  have HB := l05Bent_any a len cap w.heap.size 0 zs w1 s1 (hr.below b1) hab hlen (by omega)
  have hz1 := b1.size
  clear s1 hr hab
  go_wp2_with fail
  refine HB.mono ?_
  rintro e w2 ⟨v, p, rfl, i2, hp, _, _, g2⟩
  have B2 : Below w.heap.size w w2 := b1.grown g2 hz1 (by intro q hq; cases hq; exact Nat.le_refl _)
  clear HB
  go_wp2
  go_ret
  first | exact ⟨_, rfl, _, i2.mono hz1, hp, B2⟩ | exact ⟨_, _, rfl, i2.mono hz1, hp, B2⟩

set_option maxRecDepth 10000 in
theorem drawStarSync_any (a : Option Addr) (len cap : Nat) (zs : List Int) (w : World) (hr : IsRow .u8 w a len cap zs) (hlen : len ≤ 1000000000) :
    Calls Try.prog 32 #[.slice a len cap] w fun e w' => ∃ v p, e = .returned v ∧ Syns w' w.heap.size v p ∧ p.length ≤ 8 ∧ Below w.heap.size w w' := by
  have hab := hr.apart
  go_enter Try.func32, Try.ntmps32
  go_wp2_with fail
  refine (l00From_any a len cap _).mono ?_
  rintro e w1 ⟨rfl, s1, z1, b1⟩
  have HB := l05Bent_any a len cap w.heap.size 0 zs w1 s1 (hr.below b1) hab hlen (by omega)
  have hz1 := b1.size
  clear s1 hr hab
  go_wp2_with fail
  refine HB.mono ?_
  rintro e w2 ⟨v, p, rfl, i2, hp, _, _, g2⟩
  have B2 : Below w.heap.size w w2 := b1.grown g2 hz1 (by intro q hq; cases hq; exact Nat.le_refl _)
  clear HB
  go_wp2
  go_ret
  first | exact ⟨_, rfl, _, i2.mono hz1, hp, B2⟩ | exact ⟨_, _, rfl, i2.mono hz1, hp, B2⟩

set_option maxRecDepth 10000 in
theorem drawSyncClash_any (a : Option Addr) (len cap : Nat) (zs : List Int) (w : World) (hr : IsRow .u8 w a len cap zs) (hlen : len ≤ 1000000000) :
    Calls Try.prog 35 #[.slice a len cap] w fun e w' => ∃ v p, e = .returned v ∧ Syns w' w.heap.size v p ∧ p.length ≤ 8 ∧ Below w.heap.size w w' := by
  have hab := hr.apart
  go_enter Try.func35, Try.ntmps35
  go_wp2_with fail
  refine (l00From_any a len cap _).mono ?_
  rintro e w1 ⟨rfl, s1, z1, b1⟩
  have HB := l05Bent_any a len cap w.heap.size 0 zs w1 s1 (hr.below b1) hab hlen (by omega)
  have hz1 := b1.size
  clear s1 hr hab
  go_wp2_with fail
  refine HB.mono ?_
  rintro e w2 ⟨v, p, rfl, i2, hp, _, _, g2⟩
  have B2 : Below w.heap.size w w2 := b1.grown g2 hz1 (by intro q hq; cases hq; exact Nat.le_refl _)
  clear HB
  go_wp2
  go_ret
  first | exact ⟨_, rfl, _, i2.mono hz1, hp, B2⟩ | exact ⟨_, _, rfl, i2.mono hz1, hp, B2⟩

set_option maxRecDepth 10000 in
set_option maxHeartbeats 400000 in
theorem sameSync_off (g o g' o' cap cap' n : Nat) (p q : List Syn) (w : World) (hn9 : n ≤ 9223372036854775807) (hn : n = p.length) (hn' : n = q.length) (hg : g < w.heap.size) (hg' : g' < w.heap.size) (hc : ∀ i, i < n → Four w g (o + i * 4) (p.getD i s0)) (hc' : ∀ i, i < n → Four w g' (o' + i * 4) (q.getD i s0)) :
    Calls Try.prog 39 #[.slice (some ⟨g, o, none⟩) n cap, .slice (some ⟨g', o', none⟩) n cap'] w fun e w' => e = .returned (.bool (sameS p q)) ∧ Below w.heap.size w w' := by
  have HB := Lib.hid (fun i (h : p.getD i s0 ≠ q.getD i s0) => sameS_bad i h)
  have HG := Lib.hid (fun (h : ∀ i, i < n → p.getD i s0 = q.getD i s0) => sameS_good (p := p) (q := q) (by omega) fun i hi => h i (by omega))
  have HC := Lib.hid hc
  have HC' := Lib.hid hc'
  have hm : Try.prog.eqGuardType Try.prog.depth 115 = false := by kernel_rfl
  clear hc hc' hn hn'
  go_enter Try.func39, Try.ntmps39
  go_wp2
  go_loopw [5] (fun i wr => ∃ k : Nat, k ≤ n ∧ i = .int .i64 k ∧ Hid (∀ j, j < k → p.getD j s0 = q.getD j s0) ∧ Below w.heap.size w wr) (fun i _ => n - (intOf i).toNat)
  case atStart => exact ⟨0, Nat.zero_le _, rfl, fun j hj => absurd hj (Nat.not_lt_zero _), Below.refl _ _⟩
  case round =>
    obtain ⟨k, hk, rfl, hall, hb⟩ := hrel
    by_cases hlt : k < n
    · obtain ⟨c0, c1, c2, c3⟩ := (HC.out k hlt).below hb hg
      obtain ⟨d0, d1, d2, d3⟩ := (HC'.out k hlt).below hb hg'
      have HBK := Lib.hid (HB.out k)
      have HNX := Lib.hid (fun (h : p.getD k s0 = q.getD k s0) => show ∀ j, j < k + 1 → p.getD j s0 = q.getD j s0 from fun j hj => by
        by_cases e : j = k
        · subst e; exact h
        · exact hall.out j (by omega))
      clear HC HC' HB HG
      generalize p.getD k s0 = y at *
      generalize q.getD k s0 = z at *
      have HQ := fun W => neq_syn y z W
      obtain ⟨⟨y0, y1⟩, y2, y3⟩ := y
      obtain ⟨⟨z0, z1⟩, z2, z3⟩ := z
      simp only [synA] at c0 c1 c2 c3 d0 d1 d2 d3 HQ
      by_cases he : ((y0, y1), (y2, y3)) = ((z0, z1), (z2, z3))
      · have HN := Lib.hid (HNX.out he)
        rw [decide_eq_false (fun h => h he)] at HQ
        clear he HBK HNX
        go_wp2
        go_quiet (fail)
        all_goals go_wp2
        all_goals go_roundw
        case rel => exact ⟨k + 1, by omega, by go_num, HN, below_drewN hb _⟩
        case measure => simp [intOf]; omega
      · have HR := Lib.hid (HBK.out he)
        rw [decide_eq_true he] at HQ
        clear he HBK HNX
        go_wp2
        go_quiet (fail)
        all_goals go_wp2
        all_goals go_ret
        all_goals exact ⟨by rw [HR.out]; rfl, below_drewN hb _⟩
    · obtain rfl : k = n := by omega
      have HR := Lib.hid (HG.out hall.out)
      clear HC HC' HB HG hall
      go_wp2
      go_ret
      exact ⟨by rw [HR.out]; rfl, hb⟩

end Go.Proofs.Ytgjmhihomklooaa

/- The laws' helper f6ints (are two lists equal?), and what FnSlides draws besides. Condition: at most 10^9 bytes. -/
namespace Go.Proofs.Ytgjmhihomklooaa
open Go.RowKit
set_option linter.unusedSimpArgs false
set_option linter.unusedVariables false

theorem f6ints_core (a b : Option Addr) (g g' cap cap' n : Nat) (f h : Nat → Int) (r : Bool) (w : World) (hm : n ≤ 9223372036854775807) (ha : n = 0 ∨ a = some ⟨g, 0, none⟩) (hb : n = 0 ∨ b = some ⟨g', 0, none⟩)
    (hc : ∀ i, i < n → w.cell? ⟨g, i, none⟩ = some (.int .i64 (f i))) (hc' : ∀ i, i < n → w.cell? ⟨g', i, none⟩ = some (.int .i64 (h i))) (hg : n = 0 ∨ g < w.heap.size) (hg' : n = 0 ∨ g' < w.heap.size)
    (hr1 : ∀ k, k < n → f k ≠ h k → r = false) (hr2 : (∀ i, i < n → f i = h i) → r = true) :
    Calls Try.prog 20 #[.slice a n cap, .slice b n cap'] w fun e w' => e = .returned (.bool r) ∧ Below w.heap.size w w' := by
  by_cases hn : n = 0
  · subst hn
    obtain rfl := hr2 fun i hi => by omega
    clear hr1 hr2 hc hc'
    go_enter Try.func20, Try.ntmps20
    go_wp2
    refine wp_loop_rounds 1 ?_
    rw [rounds_succ]
    go_wp2
    go_ret
    exact ⟨rfl, Below.refl _ _⟩
  · obtain rfl := ha.resolve_left hn
    obtain rfl := hb.resolve_left hn
    have hg := hg.resolve_left hn
    have hg' := hg'.resolve_left hn
    have HR1 := Lib.hid hr1
    have HR2 := Lib.hid hr2
    clear hr1 hr2 ha hb
    go_enter Try.func20, Try.ntmps20
    go_wp2
    go_loopw [5] (fun i wr => ∃ k : Nat, k ≤ n ∧ i = .int .i64 k ∧ Hid (∀ i, i < k → f i = h i) ∧ Below w.heap.size w wr) (fun i _ => n - (intOf i).toNat)
    case atStart => exact ⟨0, Nat.zero_le _, rfl, fun i hi => by omega, Below.refl _ _⟩
    case round =>
      obtain ⟨k, hk, rfl, heq, hB⟩ := hrel
      by_cases hlt : k < n
      · have c1 := (hB.cell (p := ⟨g, k, none⟩) hg).trans (hc k hlt)
        have c2 := (hB.cell (p := ⟨g', k, none⟩) hg').trans (hc' k hlt)
        have hR := Lib.hid (HR1.out k hlt)
        clear hc hc'
        by_cases he : f k = h k
        · have HE := Lib.hid he
          obtain ⟨x, hx⟩ : ∃ x, x = f k := ⟨_, rfl⟩
          rw [← he, ← hx] at c2
          rw [← hx] at c1
          clear he hx
          go_wp2
          go_quiet (fail)
          go_wp2
          go_roundw
          case rel =>
            refine ⟨k + 1, by omega, by go_num, ?_, below_drewN hB _⟩
            intro i hi
            by_cases e : i = k
            · subst e; exact HE.out
            · exact heq.out i (by omega)
          case measure => simp [intOf]; omega
        · obtain rfl := hR.out he
          have he' : (f k == h k) = false := by simpa using he
          go_wp2
          go_quiet (fail)
          go_wp2
          go_ret
          exact ⟨rfl, below_drewN hB _⟩
      · obtain rfl : k = n := by omega
        obtain rfl := HR2.out heq.out
        clear hc hc'
        go_wp2
        go_ret
        exact ⟨rfl, hB⟩

theorem f6ints_diff (a b : Option Addr) (n m cap cap' : Nat) (w : World) (hm : n ≤ 9223372036854775807) (hm' : m ≤ 9223372036854775807) (hne : n ≠ m) :
    Calls Try.prog 20 #[.slice a n cap, .slice b m cap'] w fun e w' => e = .returned (.bool false) ∧ Below w.heap.size w w' := by
  have hl' : ((n : Int) == (m : Int)) = false := by simp; omega
  go_enter Try.func20, Try.ntmps20
  go_wp2
  go_ret
  exact ⟨rfl, Below.refl _ _⟩

theorem f6ints_any (v u : Value) (B C : Nat) (p q : List Int) (w : World) (h : Ints w B v p) (h' : Ints w C u q) :
    Calls Try.prog 20 #[v, u] w fun e w' => e = .returned (.bool (sameL p q)) ∧ Below w.heap.size w w' := by
  have hm := h.len
  have hm' := h'.len
  obtain ⟨a, g, cap, rfl, ha, hg, hc⟩ := h.open
  obtain ⟨b, g', cap', rfl, hb, hg', hc'⟩ := h'.open
  by_cases hl : p.length = q.length
  · rw [← hl] at hb hg' hc' ⊢
    refine f6ints_core a b g g' cap cap' p.length _ _ _ w hm ha hb hc hc' hg hg' (fun k hk hne => ?_) (fun he => ?_)
    · simp only [sameL, decide_eq_false_iff_not]
      rintro rfl
      exact hne rfl
    · simp only [sameL, decide_eq_true_eq]
      exact list_ext hl he
  · have hd : sameL p q = false := by
      simp only [sameL, decide_eq_false_iff_not]
      rintro rfl
      exact hl rfl
    rw [hd]
    exact f6ints_diff a b _ _ cap cap' w hm hm' hl


end Go.Proofs.Ytgjmhihomklooaa

/- The walk of the law FnMultis: it returns true. No conditions. -/
namespace Go.Proofs.Ytgjmhihomklooaa
open Go.RowKit
set_option linter.unusedSimpArgs false
set_option linter.unusedVariables false

theorem sameG_refl (p : List (List Int)) : sameG p p = true := decide_eq_true rfl
theorem sameL_refl9 (p : List Int) : sameL p p = true := decide_eq_true rfl

set_option maxRecDepth 100000 in
set_option maxHeartbeats 40000000 in
theorem walk_FnMultis (a0 : Option Addr) (len0 cap0 : Nat) (z0 : List Int) (w : World) (r0 : IsRow .u8 w a0 len0 cap0 z0) :
    Calls Try.prog 3 #[.slice a0 len0 cap0] w fun e w' => e = .returned (.bool true) ∧ Below w.heap.size w w' := by
  have hm0 : len0 ≤ 9223372036854775807 := by have := r0.bytes.2.1; unfold maxLen at this; omega
  have HL := fun W => f6big_any a0 len0 cap0 W hm0
  by_cases hb : 4096 < (len0 : Int)
  · rw [decide_eq_true hb] at HL
    go_enter Try.func3, Try.ntmps3
    go_wp2_with fail
    refine (HL _).mono ?_
    rintro e w' ⟨rfl, rfl⟩
    go_wp2
    go_ret
    exact ⟨rfl, Below.refl _ _⟩
  · rw [decide_eq_false hb] at HL
    have hb0 : len0 ≤ 1000000000 := by omega
    clear hb hm0
    have BB := Below.refl w.heap.size w
    go_enter Try.func3, Try.ntmps3
    go_wp2_with fail
    refine (HL _).mono ?_
    rintro e w' ⟨rfl, rfl⟩
    clear HL
    have HC := drawAddMulti_any a0 len0 cap0 z0 _ r0 hb0
    go_wp2_with fail
    refine HC.mono ?_
    rintro e wd1 ⟨x1, y1, n1, p, x2, y2, n2, q, M1, rfl, ga, hpb, gb, hqb, bb⟩
    clear HC
    replace r0 := r0.below bb
    replace BB := BB.trans (bb.mono BB.size)
    clear bb
    have hps := hpb.small
    have hqs := hqb.small
    have al := low_al wd1 (.cells #[.slice x1 y1 n1] 26)
    have va := Var1.made wd1 (.slice x1 y1 n1) 26
    replace r0 := r0.below al
    replace ga := ga.below al
    replace gb := gb.below al
    replace BB := BB.trans (al.mono BB.size)
    clear al
    have al := low_al (wd1.alloc (.cells #[.slice x1 y1 n1] 26)) (.cells #[.slice x2 y2 n2] 26)
    have vb := Var1.made (wd1.alloc (.cells #[.slice x1 y1 n1] 26)) (.slice x2 y2 n2) 26
    replace r0 := r0.below al
    replace ga := ga.below al
    replace gb := gb.below al
    replace va := va.below al
    replace BB := BB.trans (al.mono BB.size)
    clear al
    simp only [World.size_alloc] at vb
    have ca := va.1
    have cb := vb.1
    have HC := addMulti_impl _ _ _ _ _ _ _ _ _ _ _ ga gb hps hqs
    go_wp2_with fail
    refine HC.mono ?_
    rintro e wd2 ⟨x3, y3, n3, rfl, gx, bb⟩
    clear HC
    clear ca cb
    replace r0 := r0.below bb
    replace ga := ga.below bb
    replace gb := gb.below bb
    replace va := va.below bb
    replace vb := vb.below bb
    replace BB := BB.trans (bb.mono BB.size)
    clear bb
    have al := low_al wd2 (.cells #[.slice x3 y3 n3] 26)
    have vx := Var1.made wd2 (.slice x3 y3 n3) 26
    replace r0 := r0.below al
    replace ga := ga.below al
    replace gb := gb.below al
    replace gx := gx.below al
    replace va := va.below al
    replace vb := vb.below al
    replace BB := BB.trans (al.mono BB.size)
    clear al
    have ca := va.1
    have cb := vb.1
    have cx := vx.1
    have HC := addMulti_spec _ _ _ _ _ _ _ _ _ _ _ ga gb
    go_wp2_with fail
    refine HC.mono ?_
    rintro e wd3 ⟨x4, y4, n4, rfl, gm, bb⟩
    clear HC
    clear ca cb cx
    replace r0 := r0.below bb
    replace ga := ga.below bb
    replace gb := gb.below bb
    replace gx := gx.below bb
    replace va := va.below bb
    replace vb := vb.below bb
    replace vx := vx.below bb
    replace BB := BB.trans (bb.mono BB.size)
    clear bb
    have al := low_al wd3 (.cells #[.slice x4 y4 n4] 26)
    have vm := Var1.made wd3 (.slice x4 y4 n4) 26
    replace r0 := r0.below al
    replace ga := ga.below al
    replace gb := gb.below al
    replace gx := gx.below al
    replace gm := gm.below al
    replace va := va.below al
    replace vb := vb.below al
    replace vx := vx.below al
    replace BB := BB.trans (al.mono BB.size)
    clear al
    have ca := va.1
    have cb := vb.1
    have cx := vx.1
    have cm := vm.1
    have HC := drawMultiLandings_any a0 len0 cap0 z0 _ r0 hb0
    go_wp2_with fail
    refine HC.mono ?_
    rintro e wd4 ⟨x5, y5, n5, r, rfl, gr, hrb, bb⟩
    clear HC
    clear ca cb cx cm
    replace r0 := r0.below bb
    replace ga := ga.below bb
    replace gb := gb.below bb
    replace gx := gx.below bb
    replace gm := gm.below bb
    replace va := va.below bb
    replace vb := vb.below bb
    replace vx := vx.below bb
    replace vm := vm.below bb
    replace BB := BB.trans (bb.mono BB.size)
    clear bb
    have hrs := hrb.small
    clear r0
    have al := low_al wd4 (.cells #[.slice x5 y5 n5] 26)
    have vr := Var1.made wd4 (.slice x5 y5 n5) 26
    replace ga := ga.below al
    replace gb := gb.below al
    replace gx := gx.below al
    replace gm := gm.below al
    replace gr := gr.below al
    replace va := va.below al
    replace vb := vb.below al
    replace vx := vx.below al
    replace vm := vm.below al
    replace BB := BB.trans (al.mono BB.size)
    clear al
    have ca := va.1
    have cb := vb.1
    have cx := vx.1
    have cm := vm.1
    have cr := vr.1
    have HC := multiLandings_impl _ _ _ _ _ _ gr hrs
    go_wp2_with fail
    refine HC.mono ?_
    rintro e wd5 ⟨vl, rfl, il, bb⟩
    clear HC
    clear ca cb cx cm cr
    replace ga := ga.below bb
    replace gb := gb.below bb
    replace gx := gx.below bb
    replace gm := gm.below bb
    replace gr := gr.below bb
    replace va := va.below bb
    replace vb := vb.below bb
    replace vx := vx.below bb
    replace vm := vm.below bb
    replace vr := vr.below bb
    replace BB := BB.trans (bb.mono BB.size)
    clear bb
    have ca := va.1
    have cb := vb.1
    have cx := vx.1
    have cm := vm.1
    have cr := vr.1
    have HC := multiLandings_spec _ _ _ _ _ _ gr
    go_wp2_with fail
    refine HC.mono ?_
    rintro e wd6 ⟨vs, rfl, iss, bb⟩
    clear HC
    clear ca cb cx cm cr
    replace ga := ga.below bb
    replace gb := gb.below bb
    replace gx := gx.below bb
    replace gm := gm.below bb
    replace gr := gr.below bb
    replace il := il.below bb
    replace va := va.below bb
    replace vb := vb.below bb
    replace vx := vx.below bb
    replace vm := vm.below bb
    replace vr := vr.below bb
    replace BB := BB.trans (bb.mono BB.size)
    clear bb
    have ca := va.1
    have cb := vb.1
    have cx := vx.1
    have cm := vm.1
    have cr := vr.1
    have HC := multiProps_impl _ _ _ _ _ _ gr hrs
    go_wp2_with fail
    refine HC.mono ?_
    rintro e wd7 ⟨rfl, bb⟩
    clear HC
    clear ca cb cx cm cr
    replace ga := ga.below bb
    replace gb := gb.below bb
    replace gx := gx.below bb
    replace gm := gm.below bb
    replace gr := gr.below bb
    replace il := il.below bb
    replace iss := iss.below bb
    replace va := va.below bb
    replace vb := vb.below bb
    replace vx := vx.below bb
    replace vm := vm.below bb
    replace vr := vr.below bb
    replace BB := BB.trans (bb.mono BB.size)
    clear bb
    have ca := va.1
    have cb := vb.1
    have cx := vx.1
    have cm := vm.1
    have cr := vr.1
    have HC := multiProps_spec _ _ _ _ _ _ gr
    go_wp2_with fail
    refine HC.mono ?_
    rintro e wd8 ⟨rfl, bb⟩
    clear HC
    clear ca cb cx cm cr
    replace ga := ga.below bb
    replace gb := gb.below bb
    replace gx := gx.below bb
    replace gm := gm.below bb
    replace gr := gr.below bb
    replace il := il.below bb
    replace iss := iss.below bb
    replace va := va.below bb
    replace vb := vb.below bb
    replace vx := vx.below bb
    replace vm := vm.below bb
    replace vr := vr.below bb
    replace BB := BB.trans (bb.mono BB.size)
    clear bb
    have HX9 := Lib.hid (fun W (hW : Below wd8.heap.size wd8 W) => (vx.below hW).1)
    have HM9 := Lib.hid (fun W (hW : Below wd8.heap.size wd8 W) => (vm.below hW).1)
    have HR9 := Lib.hid (fun W (hW : Below wd8.heap.size wd8 W) => (vr.below hW).1)
    have HE1 := Lib.hid (fun W (hW : Below wd8.heap.size wd8 W) => show Calls Try.prog 19 #[.agg #[.slice x3 y3 n3], .agg #[.slice x4 y4 n4]] W fun e w' => e = .returned (.bool true) ∧ Below wd8.heap.size wd8 w' ∧ w'.cell? ⟨wd2.heap.size, 0, none⟩ = some (.slice x3 y3 n3) ∧ w'.cell? ⟨wd3.heap.size, 0, none⟩ = some (.slice x4 y4 n4) ∧ w'.cell? ⟨wd4.heap.size, 0, none⟩ = some (.slice x5 y5 n5) from
      (sameMulti_spec _ _ _ _ _ _ _ _ _ _ W (gx.below hW) (gm.below hW)).mono fun e w' ⟨he, hb⟩ => ⟨by rw [he]; rw [sameG_refl], hW.trans (hb.mono hW.size), HX9.out _ (hW.trans (hb.mono hW.size)), HM9.out _ (hW.trans (hb.mono hW.size)), HR9.out _ (hW.trans (hb.mono hW.size))⟩)
    have HE2 := Lib.hid (fun W (hW : Below wd8.heap.size wd8 W) => show Calls Try.prog 20 #[vl, vs] W fun e w' => e = .returned (.bool true) ∧ Below wd8.heap.size wd8 w' ∧ w'.cell? ⟨wd2.heap.size, 0, none⟩ = some (.slice x3 y3 n3) ∧ w'.cell? ⟨wd3.heap.size, 0, none⟩ = some (.slice x4 y4 n4) ∧ w'.cell? ⟨wd4.heap.size, 0, none⟩ = some (.slice x5 y5 n5) from
      (f6ints_any _ _ _ _ _ _ W (il.below hW) (iss.below hW)).mono fun e w' ⟨he, hb⟩ => ⟨by rw [he]; rw [sameL_refl9], hW.trans (hb.mono hW.size), HX9.out _ (hW.trans (hb.mono hW.size)), HM9.out _ (hW.trans (hb.mono hW.size)), HR9.out _ (hW.trans (hb.mono hW.size))⟩)
    have HE3 := Lib.hid (fun W (hW : Below wd8.heap.size wd8 W) => show Calls Try.prog 21 #[.agg #[.slice x5 y5 n5]] W fun e w' => e = .returned (.bool (okM r)) ∧ Below wd8.heap.size wd8 w' ∧ w'.cell? ⟨wd2.heap.size, 0, none⟩ = some (.slice x3 y3 n3) ∧ w'.cell? ⟨wd3.heap.size, 0, none⟩ = some (.slice x4 y4 n4) ∧ w'.cell? ⟨wd4.heap.size, 0, none⟩ = some (.slice x5 y5 n5) from
      (validMulti_impl _ _ _ _ _ W (gr.below hW) hrs).mono fun e w' ⟨he, hb⟩ => ⟨by rw [he], hW.trans (hb.mono hW.size), HX9.out _ (hW.trans (hb.mono hW.size)), HM9.out _ (hW.trans (hb.mono hW.size)), HR9.out _ (hW.trans (hb.mono hW.size))⟩)
    have HE4 := Lib.hid (fun W (hW : Below wd8.heap.size wd8 W) => show Calls Try.prog 22 #[.agg #[.slice x5 y5 n5]] W fun e w' => e = .returned (.bool (okM r)) ∧ Below wd8.heap.size wd8 w' ∧ w'.cell? ⟨wd2.heap.size, 0, none⟩ = some (.slice x3 y3 n3) ∧ w'.cell? ⟨wd3.heap.size, 0, none⟩ = some (.slice x4 y4 n4) ∧ w'.cell? ⟨wd4.heap.size, 0, none⟩ = some (.slice x5 y5 n5) from
      (validMulti_spec _ _ _ _ _ W (gr.below hW)).mono fun e w' ⟨he, hb⟩ => ⟨by rw [he], hW.trans (hb.mono hW.size), HX9.out _ (hW.trans (hb.mono hW.size)), HM9.out _ (hW.trans (hb.mono hW.size)), HR9.out _ (hW.trans (hb.mono hW.size))⟩)
    have bA := (Below.refl wd8.heap.size wd8)
    have ca := va.1
    have cb := vb.1
    have cx := vx.1
    have cm := vm.1
    have cr := vr.1
    obtain ⟨okr, hokr⟩ : ∃ v, okM r = v := ⟨_, rfl⟩
    rw [hokr] at HE3 HE4
    have HOKR := Lib.hid hokr
    clear hokr gm iss vm
    go_wp2
    go_region_held3 (fun W => Below wd8.heap.size wd8 W ∧ W.cell? ⟨wd2.heap.size, 0, none⟩ = some (.slice x3 y3 n3) ∧ W.cell? ⟨wd3.heap.size, 0, none⟩ = some (.slice x4 y4 n4) ∧ W.cell? ⟨wd4.heap.size, 0, none⟩ = some (.slice x5 y5 n5)) (first | exact ⟨by assumption, by assumption, by assumption, by assumption⟩ | exact ⟨Below.drew (by assumption), by assumption, by assumption, by assumption⟩) (first | (go_at_call 19; (with_reducible refine (HE1.out _ ?_).mono ?_); (repeat (first | assumption | exact Below.refl _ _ | refine Below.drew ?_ | refine below_drewN ?_ _)); rintro e yw1 ⟨rfl, hb1, hx1, hm1, hr1⟩) | (go_at_call 20; (with_reducible refine (HE2.out _ ?_).mono ?_); (repeat (first | assumption | exact Below.refl _ _ | refine Below.drew ?_ | refine below_drewN ?_ _)); rintro e yw2 ⟨rfl, hb2, hx2, hm2, hr2⟩) | (go_at_call 21; (with_reducible refine (HE3.out _ ?_).mono ?_); (repeat (first | assumption | exact Below.refl _ _ | refine Below.drew ?_ | refine below_drewN ?_ _)); rintro e yw3 ⟨rfl, hb3, hx3, hm3, hr3⟩) | (go_at_call 22; (with_reducible refine (HE4.out _ ?_).mono ?_); (repeat (first | assumption | exact Below.refl _ _ | refine Below.drew ?_ | refine below_drewN ?_ _)); rintro e wd9 ⟨rfl, hb4, hx4, hm4, hr4⟩))
    clear HE1 HE2 HE3 HE4 HX9 HM9 HR9 bA hx4 hm4 hr4 cm hb1 hb2 hb3 hx1 hx2 hx3 hm1 hm2 hm3 hr1 hr2 hr3
    clear ca cb cx cr
    have bb := hb4
    clear hb4
    replace ga := ga.below bb
    replace gb := gb.below bb
    replace gx := gx.below bb
    replace gr := gr.below bb
    replace il := il.below bb
    replace va := va.below bb
    replace vb := vb.below bb
    replace vx := vx.below bb
    replace vr := vr.below bb
    replace BB := BB.trans (bb.mono BB.size)
    clear bb
    cases okr with
    | false =>
      have hpc : propsC r = 1 := by simp [propsC, HOKR.out]
      have hpc1 : (propsC r == 0) = false := by rw [hpc]; rfl
      have hpc2 : (propsC r != 0) = true := by rw [hpc]; rfl
      clear gr il vr
      by_cases had : addMC p q = 0
      · obtain ⟨hop, hoq, hll, hog, hr1, hr2, hc2⟩ := addM_back had
        have hpa := props_add hop hoq hll hog
        have had1 : (addMC p q != 0) = false := by simp [had]
        have had2 : (addMC p q == 0) = true := by simp [had]
        rw [hr1] at gx
        have hcp : propsC p = 0 := by simp [propsC, hop]
        have hcq : propsC q = 0 := by simp [propsC, hoq]
        have hcx : propsC (addG p q) = 0 := by simp [propsC, hog]
        have hsx : Small (addG p q) := by have h := shapeL_num (okM_shape hog); exact fun i hi => by have := rowOk_num (shapeL_at (okM_shape hog) i hi); omega
        have hbp := propsQ_bound hop
        have hbq := propsQ_bound hoq
        obtain ⟨P, hP⟩ : ∃ P, propsQ p = P := ⟨_, rfl⟩
        obtain ⟨Q, hQ⟩ : ∃ Q, propsQ q = Q := ⟨_, rfl⟩
        rw [hP] at hbp hpa
        rw [hQ] at hbq hpa
        obtain ⟨bp0, bp1⟩ := hbp
        obtain ⟨bq0, bq1⟩ := hbq
        clear hop hoq hll hr1
        have HOG := Lib.hid hog
        clear hog
        have ca := va.1
        have cb := vb.1
        have cx := vx.1
        have HC := multiProps_impl _ _ _ _ _ _ ga hps
        rw [hcp, hP] at HC
        go_wp2_with fail
        refine HC.mono ?_
        rintro e wd10 ⟨rfl, bb⟩
        clear HC
        clear ca cb cx
        replace ga := ga.below bb
        replace gb := gb.below bb
        replace gx := gx.below bb
        replace va := va.below bb
        replace vb := vb.below bb
        replace vx := vx.below bb
        replace BB := BB.trans (bb.mono BB.size)
        clear bb
        have ca := va.1
        have cb := vb.1
        have cx := vx.1
        have HC := multiProps_impl _ _ _ _ _ _ gb hqs
        rw [hcq, hQ] at HC
        go_wp2_with fail
        refine HC.mono ?_
        rintro e wd11 ⟨rfl, bb⟩
        clear HC
        clear ca cb cx
        replace ga := ga.below bb
        replace gb := gb.below bb
        replace gx := gx.below bb
        replace va := va.below bb
        replace vb := vb.below bb
        replace vx := vx.below bb
        replace BB := BB.trans (bb.mono BB.size)
        clear bb
        have ca := va.1
        have cb := vb.1
        have cx := vx.1
        have HC := multiProps_impl _ _ _ _ _ _ gx hsx
        rw [hcx, hpa] at HC
        go_wp2_with fail
        refine HC.mono ?_
        rintro e wd12 ⟨rfl, bb⟩
        clear HC
        clear ca cb cx
        replace ga := ga.below bb
        replace gb := gb.below bb
        replace gx := gx.below bb
        replace va := va.below bb
        replace vb := vb.below bb
        replace vx := vx.below bb
        replace BB := BB.trans (bb.mono BB.size)
        clear bb
        have ca := va.1
        have cb := vb.1
        have cx := vx.1
        have HC := addMulti_impl _ _ _ _ _ _ _ _ _ _ _ gb ga hqs hps
        rw [hc2, hr2] at HC
        go_wp2_with fail
        refine HC.mono ?_
        rintro e wd13 ⟨x6, y6, n6, rfl, gk, bb⟩
        clear HC
        clear ca cb cx
        replace ga := ga.below bb
        replace gb := gb.below bb
        replace gx := gx.below bb
        replace va := va.below bb
        replace vb := vb.below bb
        replace vx := vx.below bb
        replace BB := BB.trans (bb.mono BB.size)
        clear bb
        have al := low_al wd13 (.cells #[.slice x6 y6 n6] 26)
        have vk := Var1.made wd13 (.slice x6 y6 n6) 26
        replace ga := ga.below al
        replace gb := gb.below al
        replace gx := gx.below al
        replace gk := gk.below al
        replace va := va.below al
        replace vb := vb.below al
        replace vx := vx.below al
        replace BB := BB.trans (al.mono BB.size)
        clear al
        clear hcp hcq hcx hpa hr2 hc2 hP hQ had had1 had2
        have ck := vk.1
        have cx := vx.1
        have hK1 := Lib.hid (fun W (hW : Below (wd13.alloc (.cells #[.slice x6 y6 n6] 26)).heap.size (wd13.alloc (.cells #[.slice x6 y6 n6] 26)) W) => (vk.below hW).1)
        have hK2 := Lib.hid (fun W (hW : Below (wd13.alloc (.cells #[.slice x6 y6 n6] 26)).heap.size (wd13.alloc (.cells #[.slice x6 y6 n6] 26)) W) => (vx.below hW).1)
        have HE1 := Lib.hid (fun W (hW : Below (wd13.alloc (.cells #[.slice x6 y6 n6] 26)).heap.size (wd13.alloc (.cells #[.slice x6 y6 n6] 26)) W) => show Calls Try.prog 19 #[.agg #[.slice x6 y6 n6], .agg #[.slice x3 y3 n3]] W fun e w' => e = .returned (.bool true) ∧ Below (wd13.alloc (.cells #[.slice x6 y6 n6] 26)).heap.size (wd13.alloc (.cells #[.slice x6 y6 n6] 26)) w' ∧ w'.cell? ⟨wd13.heap.size, 0, none⟩ = some (.slice x6 y6 n6) ∧ w'.cell? ⟨wd2.heap.size, 0, none⟩ = some (.slice x3 y3 n3) from
          (sameMulti_spec _ _ _ _ _ _ _ _ _ _ W (gk.below hW) (gx.below hW)).mono fun e w' ⟨he, hb⟩ => ⟨by rw [he]; rw [sameG_refl], hW.trans (hb.mono hW.size), hK1.out _ (hW.trans (hb.mono hW.size)), hK2.out _ (hW.trans (hb.mono hW.size))⟩)
        have HE2 := Lib.hid (fun W (hW : Below (wd13.alloc (.cells #[.slice x6 y6 n6] 26)).heap.size (wd13.alloc (.cells #[.slice x6 y6 n6] 26)) W) => show Calls Try.prog 21 #[.agg #[.slice x3 y3 n3]] W fun e w' => e = .returned (.bool true) ∧ Below (wd13.alloc (.cells #[.slice x6 y6 n6] 26)).heap.size (wd13.alloc (.cells #[.slice x6 y6 n6] 26)) w' ∧ w'.cell? ⟨wd13.heap.size, 0, none⟩ = some (.slice x6 y6 n6) ∧ w'.cell? ⟨wd2.heap.size, 0, none⟩ = some (.slice x3 y3 n3) from
          (validMulti_impl _ _ _ _ _ W (gx.below hW) hsx).mono fun e w' ⟨he, hb⟩ => ⟨by rw [he]; rw [HOG.out], hW.trans (hb.mono hW.size), hK1.out _ (hW.trans (hb.mono hW.size)), hK2.out _ (hW.trans (hb.mono hW.size))⟩)
        have bA := (Below.refl (wd13.alloc (.cells #[.slice x6 y6 n6] 26)).heap.size (wd13.alloc (.cells #[.slice x6 y6 n6] 26)))
        have BBH := Lib.hid BB
        clear gk gx ga gb va vb vx vk BB
        go_wp2_with fail
        refine (HE1.out _ bA).mono ?_
        rintro e yw1 ⟨rfl, hb1, hx1, hm1⟩
        go_wp2_with fail
        refine (HE2.out _ hb1).mono ?_
        rintro e yw2 ⟨rfl, hb2, hx2, hm2⟩
        go_wp2
        go_ret
        exact ⟨by first | rfl | simp, BBH.out.trans (hb2.mono BBH.out.size)⟩
      · have had1 : (addMC p q != 0) = true := by simpa using had
        have had2 : (addMC p q == 0) = false := by simpa using had
        clear had
        go_wp2
        go_ret
        exact ⟨rfl, BB⟩
    | true =>
      have hok := HOKR.out
      have hpc : propsC r = 0 := by simp [propsC, hok]
      have hpc1 : (propsC r == 0) = true := by rw [hpc]; rfl
      have hpc2 : (propsC r != 0) = false := by rw [hpc]; rfl
      have hsh := okM_shape hok
      obtain ⟨hn1, hn2⟩ := shapeL_num hsh
      obtain ⟨gm9, cap9, hsl, _, hgm, _, _⟩ := gr.shape.resolve_left fun e => by rw [e.2] at hn1; simp at hn1
      simp only [Value.slice.injEq] at hsl
      obtain ⟨rfl, hy5, rfl⟩ := hsl
      obtain ⟨n, hn⟩ : ∃ n, n = r.length := ⟨_, rfl⟩
      rw [← hn] at hn1 hn2 hy5
      obtain rfl : n = y5 := hy5.symm
      have hrow := gr.rowsAt hn hsh
      have HBND := Lib.hid (fun k (hk : k ≤ n) => sumTo_bound hrow k hk)
      have HLR := Lib.hid (fun i (hi : i < n) => lands_thrown hok i (by omega))
      have hprod : sumTo r n = propsQ r * (n : Int) := by rw [hn]; exact sum_props hok
      have hqb := propsQ_bound hok
      have hll : (landsR r).length = n := by rw [hn]; unfold landsR landsL; rw [if_pos hok]; exact landsN_len _ _
      obtain ⟨gl, cl, hvl, hgl, hlc⟩ : ∃ gl cl, vl = .slice (some ⟨gl, 0, none⟩) n cl ∧ gl < wd9.heap.size ∧ ∀ i, i < n → wd9.cell? ⟨gl, i, none⟩ = some (.int .i64 ((landsR r).getD i 0)) := by
        obtain ⟨gl, cl, e, _, hgl, _⟩ := il.shape.resolve_left fun e => by rw [e.2] at hll; simp at hll; omega
        subst e
        exact ⟨gl, cl, by rw [hll], hgl, fun i hi => il.cell i (by omega)⟩
      subst hvl
      have HNE := Lib.hid (fun i (hi : i < n) => (rowOk_num (shapeL_at hsh i (by omega))).1)
      have HN := Lib.hid hn
      clear hn
      have HROW := Lib.hid hrow
      have HLC := Lib.hid hlc
      have HPROD := Lib.hid hprod
      have cr := vr.1
      obtain ⟨hqb0, hqb1⟩ := hqb
      clear hrow hlc hprod il gr hsh hok HOKR hll
      go_wp2
      go_loop [18, 19] (fun s i => ∃ k : Nat, k ≤ n ∧ i = .int .i64 k ∧ s = .int .i64 (sumTo r k)) (fun _ i => n - (intOf i).toNat)
      case atStart => exact ⟨0, Nat.zero_le _, rfl, rfl⟩
      case round =>
        obtain ⟨i, hi, rfl, rfl⟩ := hrel
        by_cases hlt : i < n
        · clear ga gb gx va vb vx BB
          obtain ⟨gb, cb, m, hm, hm4, hc, hgb, hx⟩ := HROW.out i hlt
          have hl := HLC.out i hlt
          rw [HLR.out i hlt] at hl
          have hm1 := HNE.out i hlt
          rw [← hm] at hl hm1
          have hb1 := HBND.out i hi
          have HS : Hid (sumTo r (i + 1) = sumTo r i + (r.getD i []).sum) := rfl
          generalize sumTo r i = s at *
          generalize r.getD i [] = b at *
          have HT := Lib.hid (sum_take_row hm (fun k hk => (hx k hk).2))
          obtain ⟨hx0, hx01, hx02⟩ := hx 0 (by omega)
          have HX := Lib.hid hx
          have HM := Lib.hid hm
          have HZ : Hid (s + (b.take 0).sum = s) := by unfold Hid; simp
          clear hx hm
          generalize hbz : b.getD 0 0 = b0 at *
          have HBZ := Lib.hid hbz
          clear hbz
          by_cases hz : b0 = 0
          · subst hz
            rw [if_pos rfl] at hl
            go_wp2
            go_loop [18, 21] (fun t c => ∃ k : Nat, k ≤ m ∧ c = .int .i64 k ∧ t = .int .i64 (s + (b.take k).sum)) (fun _ c => m - (intOf c).toNat)
            case atStart => exact ⟨0, Nat.zero_le _, rfl, by rw [HZ.out]⟩
            case round =>
              obtain ⟨k, hk, rfl, rfl⟩ := hrel
              by_cases hkm : k < m
              · obtain ⟨hx1, hx2, hx3⟩ := HX.out k hkm
                have HST := Lib.hid (sum_take (p := b) k (by rw [← HM.out]; exact hkm))
                have hb2 := HT.out k hk
                generalize (b.take k).sum = t at *
                generalize b.getD k 0 = x at *
                go_wp2
                go_round
                case rel => exact ⟨k + 1, by omega, by go_num, by rw [HST.out, Int.add_assoc]⟩
                case measure => simp [intOf]; omega
              · obtain rfl : k = m := by omega
                have HFIN : Hid (s + (b.take k).sum = sumTo r (i + 1)) := by unfold Hid; rw [HS.out, HM.out, List.take_length]
                go_wp2
                go_round
                case rel => exact ⟨i + 1, by omega, by go_num, by rw [HFIN.out]⟩
                case measure => simp [intOf]; omega
          · rw [if_neg hz] at hl
            have hz1 : (b0 == 0) = false := by simpa using hz
            go_wp2
            go_loop [18, 21] (fun t c => ∃ k : Nat, k ≤ m ∧ c = .int .i64 k ∧ t = .int .i64 (s + (b.take k).sum)) (fun _ c => m - (intOf c).toNat)
            case atStart => exact ⟨0, Nat.zero_le _, rfl, by rw [HZ.out]⟩
            case round =>
              obtain ⟨k, hk, rfl, rfl⟩ := hrel
              by_cases hkm : k < m
              · obtain ⟨hx1, hx2, hx3⟩ := HX.out k hkm
                have HST := Lib.hid (sum_take (p := b) k (by rw [← HM.out]; exact hkm))
                have hb2 := HT.out k hk
                generalize (b.take k).sum = t at *
                generalize b.getD k 0 = x at *
                go_wp2
                go_round
                case rel => exact ⟨k + 1, by omega, by go_num, by rw [HST.out, Int.add_assoc]⟩
                case measure => simp [intOf]; omega
              · obtain rfl : k = m := by omega
                have HFIN : Hid (s + (b.take k).sum = sumTo r (i + 1)) := by unfold Hid; rw [HS.out, HM.out, List.take_length]
                go_wp2
                go_round
                case rel => exact ⟨i + 1, by omega, by go_num, by rw [HFIN.out]⟩
                case measure => simp [intOf]; omega
        · obtain rfl : i = n := by omega
          have hb1 := HBND.out i hi
          rw [HPROD.out] at hb1 ⊢
          skip
          by_cases had : addMC p q = 0
          · obtain ⟨hop, hoq, hll, hog, hr1, hr2, hc2⟩ := addM_back had
            have hpa := props_add hop hoq hll hog
            have had1 : (addMC p q != 0) = false := by simp [had]
            have had2 : (addMC p q == 0) = true := by simp [had]
            rw [hr1] at gx
            have hcp : propsC p = 0 := by simp [propsC, hop]
            have hcq : propsC q = 0 := by simp [propsC, hoq]
            have hcx : propsC (addG p q) = 0 := by simp [propsC, hog]
            have hsx : Small (addG p q) := by have h := shapeL_num (okM_shape hog); exact fun i hi => by have := rowOk_num (shapeL_at (okM_shape hog) i hi); omega
            have hbp := propsQ_bound hop
            have hbq := propsQ_bound hoq
            obtain ⟨P, hP⟩ : ∃ P, propsQ p = P := ⟨_, rfl⟩
            obtain ⟨Q, hQ⟩ : ∃ Q, propsQ q = Q := ⟨_, rfl⟩
            rw [hP] at hbp hpa
            rw [hQ] at hbq hpa
            obtain ⟨bp0, bp1⟩ := hbp
            obtain ⟨bq0, bq1⟩ := hbq
            clear hop hoq hll hr1
            have HOG := Lib.hid hog
            clear hog
            have ca := va.1
            have cb := vb.1
            have cx := vx.1
            have HC := multiProps_impl _ _ _ _ _ _ ga hps
            rw [hcp, hP] at HC
            go_wp2_with fail
            refine HC.mono ?_
            rintro e wd10 ⟨rfl, bb⟩
            clear HC
            clear ca cb cx
            replace ga := ga.below bb
            replace gb := gb.below bb
            replace gx := gx.below bb
            replace va := va.below bb
            replace vb := vb.below bb
            replace vx := vx.below bb
            replace BB := BB.trans (bb.mono BB.size)
            clear bb
            have ca := va.1
            have cb := vb.1
            have cx := vx.1
            have HC := multiProps_impl _ _ _ _ _ _ gb hqs
            rw [hcq, hQ] at HC
            go_wp2_with fail
            refine HC.mono ?_
            rintro e wd11 ⟨rfl, bb⟩
            clear HC
            clear ca cb cx
            replace ga := ga.below bb
            replace gb := gb.below bb
            replace gx := gx.below bb
            replace va := va.below bb
            replace vb := vb.below bb
            replace vx := vx.below bb
            replace BB := BB.trans (bb.mono BB.size)
            clear bb
            have ca := va.1
            have cb := vb.1
            have cx := vx.1
            have HC := multiProps_impl _ _ _ _ _ _ gx hsx
            rw [hcx, hpa] at HC
            go_wp2_with fail
            refine HC.mono ?_
            rintro e wd12 ⟨rfl, bb⟩
            clear HC
            clear ca cb cx
            replace ga := ga.below bb
            replace gb := gb.below bb
            replace gx := gx.below bb
            replace va := va.below bb
            replace vb := vb.below bb
            replace vx := vx.below bb
            replace BB := BB.trans (bb.mono BB.size)
            clear bb
            have ca := va.1
            have cb := vb.1
            have cx := vx.1
            have HC := addMulti_impl _ _ _ _ _ _ _ _ _ _ _ gb ga hqs hps
            rw [hc2, hr2] at HC
            go_wp2_with fail
            refine HC.mono ?_
            rintro e wd13 ⟨x6, y6, n6, rfl, gk, bb⟩
            clear HC
            clear ca cb cx
            replace ga := ga.below bb
            replace gb := gb.below bb
            replace gx := gx.below bb
            replace va := va.below bb
            replace vb := vb.below bb
            replace vx := vx.below bb
            replace BB := BB.trans (bb.mono BB.size)
            clear bb
            have al := low_al wd13 (.cells #[.slice x6 y6 n6] 26)
            have vk := Var1.made wd13 (.slice x6 y6 n6) 26
            replace ga := ga.below al
            replace gb := gb.below al
            replace gx := gx.below al
            replace gk := gk.below al
            replace va := va.below al
            replace vb := vb.below al
            replace vx := vx.below al
            replace BB := BB.trans (al.mono BB.size)
            clear al
            clear hcp hcq hcx hpa hr2 hc2 hP hQ had had1 had2
            have ck := vk.1
            have cx := vx.1
            have hK1 := Lib.hid (fun W (hW : Below (wd13.alloc (.cells #[.slice x6 y6 n6] 26)).heap.size (wd13.alloc (.cells #[.slice x6 y6 n6] 26)) W) => (vk.below hW).1)
            have hK2 := Lib.hid (fun W (hW : Below (wd13.alloc (.cells #[.slice x6 y6 n6] 26)).heap.size (wd13.alloc (.cells #[.slice x6 y6 n6] 26)) W) => (vx.below hW).1)
            have HE1 := Lib.hid (fun W (hW : Below (wd13.alloc (.cells #[.slice x6 y6 n6] 26)).heap.size (wd13.alloc (.cells #[.slice x6 y6 n6] 26)) W) => show Calls Try.prog 19 #[.agg #[.slice x6 y6 n6], .agg #[.slice x3 y3 n3]] W fun e w' => e = .returned (.bool true) ∧ Below (wd13.alloc (.cells #[.slice x6 y6 n6] 26)).heap.size (wd13.alloc (.cells #[.slice x6 y6 n6] 26)) w' ∧ w'.cell? ⟨wd13.heap.size, 0, none⟩ = some (.slice x6 y6 n6) ∧ w'.cell? ⟨wd2.heap.size, 0, none⟩ = some (.slice x3 y3 n3) from
              (sameMulti_spec _ _ _ _ _ _ _ _ _ _ W (gk.below hW) (gx.below hW)).mono fun e w' ⟨he, hb⟩ => ⟨by rw [he]; rw [sameG_refl], hW.trans (hb.mono hW.size), hK1.out _ (hW.trans (hb.mono hW.size)), hK2.out _ (hW.trans (hb.mono hW.size))⟩)
            have HE2 := Lib.hid (fun W (hW : Below (wd13.alloc (.cells #[.slice x6 y6 n6] 26)).heap.size (wd13.alloc (.cells #[.slice x6 y6 n6] 26)) W) => show Calls Try.prog 21 #[.agg #[.slice x3 y3 n3]] W fun e w' => e = .returned (.bool true) ∧ Below (wd13.alloc (.cells #[.slice x6 y6 n6] 26)).heap.size (wd13.alloc (.cells #[.slice x6 y6 n6] 26)) w' ∧ w'.cell? ⟨wd13.heap.size, 0, none⟩ = some (.slice x6 y6 n6) ∧ w'.cell? ⟨wd2.heap.size, 0, none⟩ = some (.slice x3 y3 n3) from
              (validMulti_impl _ _ _ _ _ W (gx.below hW) hsx).mono fun e w' ⟨he, hb⟩ => ⟨by rw [he]; rw [HOG.out], hW.trans (hb.mono hW.size), hK1.out _ (hW.trans (hb.mono hW.size)), hK2.out _ (hW.trans (hb.mono hW.size))⟩)
            have bA := (Below.refl (wd13.alloc (.cells #[.slice x6 y6 n6] 26)).heap.size (wd13.alloc (.cells #[.slice x6 y6 n6] 26)))
            have BBH := Lib.hid BB
            clear gk gx ga gb va vb vx vk BB
            go_wp2_with fail
            refine (HE1.out _ bA).mono ?_
            rintro e yw1 ⟨rfl, hb1, hx1, hm1⟩
            go_wp2_with fail
            refine (HE2.out _ hb1).mono ?_
            rintro e yw2 ⟨rfl, hb2, hx2, hm2⟩
            go_wp2
            go_ret
            exact ⟨by first | rfl | simp, BBH.out.trans (hb2.mono BBH.out.size)⟩
          · have had1 : (addMC p q != 0) = true := by simpa using had
            have had2 : (addMC p q == 0) = false := by simpa using had
            clear had
            go_wp2
            go_ret
            exact ⟨rfl, BB⟩
end Go.Proofs.Ytgjmhihomklooaa

namespace Go.Proofs.Ytgjmhihomklooaa.fnMultis
open Go.ChangeShapes Go.WideShapes Go.ChangeAt Go.RowKit
open Go.ChangeMaps (open_string shut_string)
set_option linter.unusedVariables false

theorem own : ownKnob Try.prog.godebug = none := by kernel_rfl
theorem laidOut : laidOutB Try.prog = true := by kernel_rfl

theorem walk (a0 : Option Addr) (len0 cap0 : Nat) (z0 : List Int) (w : World) (w0 : IsRow .u8 w a0 len0 cap0 z0) :
    Calls Try.prog 3 #[.slice a0 len0 cap0] w fun e w' => e = .returned (.bool true) ∧ Below w.heap.size w w' :=
  walk_FnMultis a0 len0 cap0 z0 w w0

set_option maxRecDepth 100000 in
theorem lifted (os : Os) (started : os.Started) (H : Type) (enc : TypeId × Value → H) :
    ReturnsInHanded {} Try.checked os 3 .any (Rows.fnMultisSpec.pre6 enc Try.prog Try.f3 Rows.fnMultisRow.domain false) (Rows.fnMultisSpec.post enc Try.prog Try.f3 false true false false) := by
  refine returnsInHanded_of_change (C := Try.checked) own started (by kernel_rfl) Try.func3
    (ChangeSpec.witness6 (enc := enc) (C := Try.checked) false ⟨#[], #[.slice none 0 0], []⟩ 8 (by kernel_rfl) (by kernel_rfl) (by kernel_rfl) (by kernel_rfl)) ?_
  intro W base args ds gs before hval0 hW hcnd _
  have hval : ∀ (j : Nat) t v, Try.f3.params[j]? = some t → args[j]? = some v → Value.okWide Try.prog W .any base t v := hval0
  have hW' := hW
  obtain ⟨p, q, hA0, hV, rfl, hfz, hnd⟩ := hW
  have hA : DataW.TrodAll enc Try.prog W 0 (fun _ => true) true Try.f3.params.toList args.toList ds p := hA0
  rw [Try.params3] at hA hval
  obtain ⟨v0, vs0, d0, ds0, p0, q0, hargs, rfl, rfl, h0, r0⟩ := trodAll_cons hA
  obtain ⟨rfl, rfl, rfl⟩ := trodAll_nil r0
  obtain rfl : args = #[v0] := by cases args; simp_all
  obtain ⟨rfl, rfl⟩ := trodVars_none hV
  obtain ⟨a0, len0, cap0, rfl⟩ := okWide_slice Try.underlying22 (hval 0 22 v0 rfl rfl)
  have k0 := h0
  have lt0 : ∀ x ∈ p0, x.block < W.heap.size := by obtain ⟨m, hm⟩ := k0; exact DataW.trod_lt m _ _ _ hm
  obtain ⟨z0, w0⟩ : ∃ zs, IsRow .u8 W a0 len0 cap0 zs := by
    obtain ⟨fuel, hf⟩ := h0
    rcases open_ints Try.underlying22 Try.underlying5 (by kernel_rfl) hf with ⟨hcs, _⟩ | ⟨x, l, c, zs, hcs, _, hl, hm, hz, _, hcell, hwz⟩
    · simp [Value.cells] at hcs
      obtain ⟨rfl, rfl, rfl⟩ := hcs
      exact ⟨[], .inl ⟨rfl, rfl, rfl, rfl⟩⟩
    · simp [Value.cells] at hcs
      obtain ⟨rfl, rfl, rfl⟩ := hcs
      exact ⟨zs, .inr ⟨_, rfl, hl, hm, by simpa using hz, hcell, hwz⟩⟩
  clear hA0 hval0
  refine (walk a0 len0 cap0 z0 W w0).mono fun e W' ⟨he, bel⟩ => ?_
  subst he
  exact ⟨_, rfl, _, _, _, [], _, [], hW', trodAll_mk1 (shut_bool Try.underlying4 _), (trodAll_cons_mk (Below.trod laidOut (by kernel_rfl) (of_decide_eq_true (by kernel_rfl)) k0 bel lt0) trodAll_mk0), rfl, bel.frame _, fun h => by cases h⟩

theorem over : Rows.fnMultisRow.holds Try.pinned (OpenSpec.ofChange Rows.fnMultisSpec) :=
  OpenClaim.holds_of_wide 3 Try.f3 rfl rfl rfl rfl rfl rfl rfl ⟨rfl, rfl, rfl, rfl, rfl⟩ rfl rfl rfl rfl rfl (by kernel_rfl) Try.func3 (by kernel_rfl)
    (of_decide_eq_true (by kernel_rfl)) (by unfold Func.isWrapper; first | (rw [if_pos (by decide +kernel)]; kernel_rfl) | (rw [if_neg (by decide +kernel)]; exact ⟨rfl, rfl⟩))
    (fun os started H enc _ => lifted os started H enc)

theorem proved : Rows.FnMultisSaid := over
#print axioms proved
end Go.Proofs.Ytgjmhihomklooaa.fnMultis
