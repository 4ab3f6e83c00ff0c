/- Synchronous patterns: SyncText, the program's. Condition: its table of marks reads as its text lays it. -/
import Derived.Test.YtdgmmaghmdbnjaaDoorSynX
import Derived.Test.YtdgmmaghmdbnjaaDoorSynK
import Derived.Test.YtdgmmaghmdbnjaaDoorBldX
import Derived.Deep.RegionHeld3
import Derived.Outline
namespace Go.Proofs.YtdgmmaghmdbnjaaDoor
open Go.RowKit
set_option linter.unusedSimpArgs false
set_option linter.unusedVariables false

theorem alloc2_new (w : World) (o : Obj) (cs : Array Value) (T : TypeId) (j : Nat) : ((w.alloc o).alloc (.cells cs T)).cell? ⟨w.heap.size + 1, j, none⟩ = cs[j]? := by
  have h := heap_alloc_new (w.alloc o) (.cells cs T)
  rw [show (w.alloc o).heap.size = w.heap.size + 1 by simp] at h
  exact Lib.cell_of_heap h j

set_option maxRecDepth 100000 in
theorem enc_digit (x : Int) (h0 : 0 ≤ x) (h1 : x ≤ 15) : Utf8.encode ((digB x).toNat : Int) = bytesOf [digB x] := by
  have : x = 0 ∨ x = 1 ∨ x = 2 ∨ x = 3 ∨ x = 4 ∨ x = 5 ∨ x = 6 ∨ x = 7 ∨ x = 8 ∨ x = 9 ∨ x = 10 ∨ x = 11 ∨ x = 12 ∨ x = 13 ∨ x = 14 ∨ x = 15 := by omega
  rcases this with rfl | rfl | rfl | rfl | rfl | rfl | rfl | rfl | rfl | rfl | rfl | rfl | rfl | rfl | rfl | rfl <;> exact ByteArray.ext (by decide +kernel)

set_option maxRecDepth 10000 in
theorem throwText_any (v : Int) (c : Bool) (w : World) (h0 : 0 ≤ v) (h1 : v ≤ 15) :
    Calls Tryd.prog 25 #[.agg #[.int .i64 v, .bool c]] w fun e w' => e = .returned (.string (bytesOf (oneT (v, c)))) ∧ Below w.heap.size w w' := by
  have hix := fun wx => index_digit v h0 h1 wx
  have hen := enc_digit v h0 h1
  have b1 : Below w.heap.size w (w.alloc (.cells #[.int .i64 v, .bool c] 50)) := (Below.refl _ _).alloc (Nat.le_refl _) _
  have hcat : ∀ wx, (Op.stringOp .add (bytesOf [digB v]) ⟨#[120]⟩).run Tryd.prog wx = .ok (.string (bytesOf [digB v, 120])) wx := fun wx => cat_run [digB v] [120] (by simp) wx
  cases c with
  | false =>
    go_enter Tryd.func25, Tryd.ntmps25
    go_wp2
    go_ret
    exact ⟨rfl, b1⟩
  | true =>
    go_enter Tryd.func25, Tryd.ntmps25
    go_wp2
    go_ret
    exact ⟨rfl, b1⟩

/-- the program's table of marks, as its text lays it -/
def Marks (w : World) : Prop := 0 < w.heap.size ∧ w.cell? ⟨0, 0, none⟩ = some (.string ⟨#[40]⟩) ∧ w.cell? ⟨0, 1, none⟩ = some (.string ⟨#[44]⟩) ∧ w.cell? ⟨0, 2, none⟩ = some (.string ⟨#[]⟩) ∧ w.cell? ⟨0, 3, none⟩ = some (.string ⟨#[41]⟩)
theorem Marks.below {w w' : World} {N : Nat} (h : Marks w) (hb : Below N w w') (hN : 0 < N) : Marks w' :=
  ⟨Nat.lt_of_lt_of_le h.1 hb.size, (hb.cell (p := ⟨_, 0, none⟩) hN).trans h.2.1, (hb.cell (p := ⟨_, 1, none⟩) hN).trans h.2.2.1, (hb.cell (p := ⟨_, 2, none⟩) hN).trans h.2.2.2.1, (hb.cell (p := ⟨_, 3, none⟩) hN).trans h.2.2.2.2⟩

theorem markT_even (p : List Syn) (k : Nat) (h : k % 2 = 0) : markT p k = [40] ++ oneT ((thrs p).getD k t0) ++ [44] := by rw [markT, if_pos h, if_pos h]
theorem markT_odd (p : List Syn) (k : Nat) (h : ¬ k % 2 = 0) : markT p k = [] ++ oneT ((thrs p).getD k t0) ++ [41] := by rw [markT, if_neg h, if_neg h]

set_option maxRecDepth 10000 in
set_option maxHeartbeats 1000000 in
theorem syncText_row (g cap n : Nat) (B : Nat) (p : List Syn) (w : World) (h : Syns w B (.slice (some ⟨g, 0, none⟩) n cap) p) (hn : n = p.length) (hg : g < w.heap.size) (hok : okS p = true) (hM : Marks w) :
    Calls Tryd.prog 8 #[.slice (some ⟨g, 0, none⟩) n cap] w fun e w' => e = .returned (.string (bytesOf (textS p))) ∧ Below w.heap.size w w' := by
  have HO := validSync_impl _ B p w h
  rw [hok] at HO
  have hl := okSL_len (okS_list hok)
  rw [← hn] at hl
  have HT := fun W (hW : Below w.heap.size w W) => throws_at g cap n p W hl.1 hl.2 hn (by have := hW.size; omega) (h.beats.below hW hg)
  have HV := Lib.hid (fun k (hk : k < 2 * n) => okT_num (okSL_thr (okS_list hok) k (by omega)))
  have HE := Lib.hid (fun k (e : k % 2 = 0) => markT_even p k e)
  have HD := Lib.hid (fun k (e : ¬ k % 2 = 0) => markT_odd p k e)
  have HST := Lib.hid (fun k => textK_step p k)
  have HLN := Lib.hid (fun k (hk : k ≤ 2 * n) => show (textK p k).length ≤ 48 from by have := textK_len p k; omega)
  have HF : Hid (textK p (2 * n) = textS p) := by rw [hn]; have := textK_even p p.length (Nat.le_refl _); rwa [List.take_length] at this
  have HP := Lib.hid (textS_pos (p := p) (by omega))
  obtain ⟨hl1, hl2⟩ := hl
  clear h hok hn
  go_enter Tryd.func8, Tryd.ntmps8
  go_wp2_with fail
  refine HO.mono ?_
  rintro e w1 ⟨rfl, b1⟩
  have hf0 : (w1.alloc (.cells #[.pointer none, .slice none 0 0] 45)).heap[w1.heap.size]? = some (.cells #[.pointer none, .slice none 0 0] 45) := heap_alloc_new w1 _
  have hb0 : Below w.heap.size w (w1.alloc (.cells #[.pointer none, .slice none 0 0] 45)) := b1.alloc b1.size _
  clear HO
  go_wp2_with fail
  refine (HT _ hb0).mono ?_
  rintro e w2 ⟨b, c, rfl, hb0', hb1, hcells, b2⟩
  have hB2 : BldX w2 w2.heap.size w1.heap.size (textK p 0) := BldX.fresh ((b2.block _ (by simp)).trans hf0)
  have HC := Lib.hid hcells
  have B0 := hb0.trans (b2.mono hb0.size)
  have hM2 : Marks w2 := hM.below B0 hM.1
  have hz1 := b1.size
  have hb0'' : w1.heap.size + 1 ≤ b := by simpa using hb0'
  have hz3 := hM.1
  clear HT hf0 hb0 hcells b2 b1 hb0' hM
  go_wp2
  go_loopw [13] (fun i wr => ∃ k : Nat, k ≤ 2 * n ∧ i = .int .i64 k ∧ BldX wr w2.heap.size w1.heap.size (textK p k) ∧ Beside w1.heap.size w2.heap.size w2 wr) (fun i _ => 2 * n - (intOf i).toNat)
  case atStart => exact ⟨0, Nat.zero_le _, rfl, hB2, Beside.refl _ _ _⟩
  case round =>
    clear hB2
    obtain ⟨k, hk, rfl, hB, hb⟩ := hrel
    by_cases hlt : k < 2 * n
    · have hlt' : (k : Int) < 2 * (n : Int) := by omega
      have hsz := hb.size
      obtain ⟨c0', c1'⟩ := HC.out k hlt
      have c0 := (hb.cell (p := ⟨b, k * 2, none⟩) hb1 (by show b ≠ _; omega)).trans c0'
      have c1 := (hb.cell (p := ⟨b, k * 2 + 1, none⟩) hb1 (by show b ≠ _; omega)).trans c1'
      obtain ⟨mg, m0', m1', m2', m3'⟩ := hM2
      have m0 := (hb.cell (p := ⟨0, 0, none⟩) mg (by show 0 ≠ _; omega)).trans m0'
      have m1 := (hb.cell (p := ⟨0, 1, none⟩) mg (by show 0 ≠ _; omega)).trans m1'
      have m2 := (hb.cell (p := ⟨0, 2, none⟩) mg (by show 0 ≠ _; omega)).trans m2'
      have m3 := (hb.cell (p := ⟨0, 3, none⟩) mg (by show 0 ≠ _; omega)).trans m3'
      obtain ⟨hv0, hv1⟩ := HV.out k hlt
      have HSK := Lib.hid (HST.out k)
      have hTl := HLN.out k hk
      have HEK := Lib.hid (HE.out k)
      have HDK := Lib.hid (HD.out k)
      have hA := oneT_len ((thrs p).getD k t0)
      clear HC HV HST HLN HF HP HE HD c0' c1' m0' m1' m2' m3'
      generalize (thrs p).getD k t0 = y at *
      generalize textK p k = T at *
      obtain ⟨y0, y1⟩ := y
      simp only at c0 c1 hv0 hv1
      have HY := fun W => throwText_any y0 y1 W hv0 (by omega)
      generalize oneT (y0, y1) = A at *
      by_cases he : k % 2 = 0
      · have he' : (k : Int) % 2 = 0 := by omega
        have ha := below_al (Below.refl wr.heap.size wr) (.cells #[.int .i64 y0, .bool y1] 50)
        have a0 := (ha.cell (p := ⟨0, 0, none⟩) (by show 0 < _; omega)).trans m0
        have a1 := (ha.cell (p := ⟨0, 1, none⟩) (by show 0 < _; omega)).trans m1
        have HM9 : Hid (T ++ ([40] ++ A ++ [44]) = textK p (k + 1)) := by have := HSK.out; rw [HEK.out he] at this; exact this.symm
        have hx := below_al ha (.cells #[.string ⟨#[40]⟩, .string ⟨#[44]⟩] 51)
        have x0 : ((wr.alloc (.cells #[.int .i64 y0, .bool y1] 50)).alloc (.cells #[.string ⟨#[40]⟩, .string ⟨#[44]⟩] 51)).cell? ⟨wr.heap.size, 0, none⟩ = some (.int .i64 y0) := by rw [(below_al (Below.refl _ (wr.alloc (.cells #[.int .i64 y0, .bool y1] 50))) _).cell (by simp)]; simp
        have x1 : ((wr.alloc (.cells #[.int .i64 y0, .bool y1] 50)).alloc (.cells #[.string ⟨#[40]⟩, .string ⟨#[44]⟩] 51)).cell? ⟨wr.heap.size, 1, none⟩ = some (.bool y1) := by rw [(below_al (Below.refl _ (wr.alloc (.cells #[.int .i64 y0, .bool y1] 50))) _).cell (by simp)]; simp
        have x2 : ((wr.alloc (.cells #[.int .i64 y0, .bool y1] 50)).alloc (.cells #[.string ⟨#[40]⟩, .string ⟨#[44]⟩] 51)).cell? ⟨wr.heap.size + 1, 0, none⟩ = some (.string ⟨#[40]⟩) := alloc2_new _ _ _ _ _
        have x3 : ((wr.alloc (.cells #[.int .i64 y0, .bool y1] 50)).alloc (.cells #[.string ⟨#[40]⟩, .string ⟨#[44]⟩] 51)).cell? ⟨wr.heap.size + 1, 1, none⟩ = some (.string ⟨#[44]⟩) := alloc2_new _ _ _ _ _
        have xz : wr.heap.size + 2 ≤ ((wr.alloc (.cells #[.int .i64 y0, .bool y1] 50)).alloc (.cells #[.string ⟨#[40]⟩, .string ⟨#[44]⟩] 51)).heap.size := by simp
        have r1 : ∀ wx, (Op.stringOp .add ⟨#[40]⟩ (bytesOf A)).run Tryd.prog wx = .ok (.string (bytesOf ([40] ++ A))) wx := fun wx => cat_run [40] A (by simp; omega) wx
        have r2 : ∀ wx, (Op.stringOp .add (bytesOf ([40] ++ A)) ⟨#[44]⟩).run Tryd.prog wx = .ok (.string (bytesOf ([40] ++ A ++ [44]))) wx := fun wx => cat_run ([40] ++ A) [44] (by simp; omega) wx
        have hml : 1 ≤ ([40] ++ A ++ [44]).length ∧ ([40] ++ A ++ [44]).length ≤ 8 := by simp; omega
        clear m0 m1 m2 m3 ha HEK HDK HSK hA
        go_wp2
        generalize (wr.alloc (.cells #[.int .i64 y0, .bool y1] 50)).alloc (.cells #[.string ⟨#[40]⟩, .string ⟨#[44]⟩] 51) = X0 at *
        generalize [40] ++ A ++ [44] = M at *
        generalize [40] ++ A = M1 at *
        have HCK := Lib.hid (fun (W : World) (hW : ∀ q, wr.heap.size ≤ q → q < X0.heap.size → W.heap[q]? = X0.heap[q]?) => show W.cell? ⟨wr.heap.size, 0, none⟩ = some (.int .i64 y0) ∧ W.cell? ⟨wr.heap.size, 1, none⟩ = some (.bool y1) ∧ W.cell? ⟨wr.heap.size + 1, 0, none⟩ = some (.string ⟨#[40]⟩) ∧ W.cell? ⟨wr.heap.size + 1, 1, none⟩ = some (.string ⟨#[44]⟩) from
          ⟨(World.cell?_of_block (a := ⟨wr.heap.size, 0, none⟩) (hW _ (Nat.le_refl _) (by show wr.heap.size < _; omega))).trans x0, (World.cell?_of_block (a := ⟨wr.heap.size, 1, none⟩) (hW _ (Nat.le_refl _) (by show wr.heap.size < _; omega))).trans x1, (World.cell?_of_block (a := ⟨wr.heap.size + 1, 0, none⟩) (hW _ (by show _ ≤ wr.heap.size + 1; omega) (by show wr.heap.size + 1 < _; omega))).trans x2, (World.cell?_of_block (a := ⟨wr.heap.size + 1, 1, none⟩) (hW _ (by show _ ≤ wr.heap.size + 1; omega) (by show wr.heap.size + 1 < _; omega))).trans x3⟩)
        have HA := Lib.hid (fun W (hW : Below X0.heap.size X0 W) => show Calls Tryd.prog 25 #[.agg #[.int .i64 y0, .bool y1]] W fun e w' => e = .returned (.string (bytesOf A)) ∧ Below X0.heap.size X0 w' ∧ w'.cell? ⟨wr.heap.size, 0, none⟩ = some (.int .i64 y0) ∧ w'.cell? ⟨wr.heap.size, 1, none⟩ = some (.bool y1) ∧ w'.cell? ⟨wr.heap.size + 1, 0, none⟩ = some (.string ⟨#[40]⟩) ∧ w'.cell? ⟨wr.heap.size + 1, 1, none⟩ = some (.string ⟨#[44]⟩) from
          (HY W).mono fun e w' ⟨h1, h2⟩ => ⟨h1, hW.trans (h2.mono hW.size), HCK.out _ fun q _ hq => (hW.trans (h2.mono hW.size)).block q hq⟩)
        have HW := Lib.hid (fun W (hW : Below X0.heap.size X0 W) => show Calls Tryd.prog 24 #[.pointer (some ⟨w1.heap.size, 0, none⟩), .string (bytesOf M)] W fun e w' => (∃ x, e = .returned x) ∧ BldX w' w2.heap.size w1.heap.size (T ++ M) ∧ Beside w1.heap.size w2.heap.size w2 w' ∧ w'.cell? ⟨wr.heap.size, 0, none⟩ = some (.int .i64 y0) ∧ w'.cell? ⟨wr.heap.size, 1, none⟩ = some (.bool y1) ∧ w'.cell? ⟨wr.heap.size + 1, 0, none⟩ = some (.string ⟨#[40]⟩) ∧ w'.cell? ⟨wr.heap.size + 1, 1, none⟩ = some (.string ⟨#[44]⟩) from
          (writeString_at w2.heap.size w1.heap.size T M wr W hB (hx.trans (hW.mono hx.size)) hml.1 (by omega) hsz).mono fun e w' ⟨h1, h2, h3, h4⟩ => ⟨h1, h2, hb.trans h3, HCK.out _ fun q h5 hq => (h4 q h5 (Nat.lt_of_lt_of_le hq hW.size)).trans (hW.block q hq)⟩)
        clear HY HCK hB hb hx
        go_region_held3 (fun W => W.cell? ⟨wr.heap.size, 0, none⟩ = some (.int .i64 y0) ∧ W.cell? ⟨wr.heap.size, 1, none⟩ = some (.bool y1) ∧ W.cell? ⟨wr.heap.size + 1, 0, none⟩ = some (.string ⟨#[40]⟩) ∧ W.cell? ⟨wr.heap.size + 1, 1, none⟩ = some (.string ⟨#[44]⟩)) (exact ⟨by assumption, by assumption, by assumption, by assumption⟩) (first | (go_at_call 25; (with_reducible refine (HA.out _ ?_).mono ?_); (first | assumption | exact Below.drew (by assumption) | exact Below.refl _ _ | exact Below.drew (Below.refl _ _)); rintro e wa ⟨rfl, hba, ca0, ca1, ca2, ca3⟩) | (go_at_call 24; (with_reducible refine (HW.out _ ?_).mono ?_); (first | assumption | exact Below.drew (by assumption)); rintro e wb ⟨⟨xq, rfl⟩, hB2, hb2, cb0, cb1, cb2, cb3⟩))
        clear HA HW r1 r2 x0 x1 x2 x3 hba ca0 ca1 ca2 ca3 cb0 cb1 cb2 cb3
        rw [HM9.out] at hB2
        go_wp2
        go_roundw
        case rel => exact ⟨k + 1, by omega, by go_num, hB2, hb2⟩
        case measure => simp [intOf]; omega
      · have he' : (k : Int) % 2 = 1 := by omega
        have ha := below_al (Below.refl wr.heap.size wr) (.cells #[.int .i64 y0, .bool y1] 50)
        have a0 := (ha.cell (p := ⟨0, 2, none⟩) (by show 0 < _; omega)).trans m2
        have a1 := (ha.cell (p := ⟨0, 3, none⟩) (by show 0 < _; omega)).trans m3
        have HM9 : Hid (T ++ ([] ++ A ++ [41]) = textK p (k + 1)) := by have := HSK.out; rw [HDK.out he] at this; exact this.symm
        have hx := below_al ha (.cells #[.string ⟨#[]⟩, .string ⟨#[41]⟩] 51)
        have x0 : ((wr.alloc (.cells #[.int .i64 y0, .bool y1] 50)).alloc (.cells #[.string ⟨#[]⟩, .string ⟨#[41]⟩] 51)).cell? ⟨wr.heap.size, 0, none⟩ = some (.int .i64 y0) := by rw [(below_al (Below.refl _ (wr.alloc (.cells #[.int .i64 y0, .bool y1] 50))) _).cell (by simp)]; simp
        have x1 : ((wr.alloc (.cells #[.int .i64 y0, .bool y1] 50)).alloc (.cells #[.string ⟨#[]⟩, .string ⟨#[41]⟩] 51)).cell? ⟨wr.heap.size, 1, none⟩ = some (.bool y1) := by rw [(below_al (Below.refl _ (wr.alloc (.cells #[.int .i64 y0, .bool y1] 50))) _).cell (by simp)]; simp
        have x2 : ((wr.alloc (.cells #[.int .i64 y0, .bool y1] 50)).alloc (.cells #[.string ⟨#[]⟩, .string ⟨#[41]⟩] 51)).cell? ⟨wr.heap.size + 1, 0, none⟩ = some (.string ⟨#[]⟩) := alloc2_new _ _ _ _ _
        have x3 : ((wr.alloc (.cells #[.int .i64 y0, .bool y1] 50)).alloc (.cells #[.string ⟨#[]⟩, .string ⟨#[41]⟩] 51)).cell? ⟨wr.heap.size + 1, 1, none⟩ = some (.string ⟨#[41]⟩) := alloc2_new _ _ _ _ _
        have xz : wr.heap.size + 2 ≤ ((wr.alloc (.cells #[.int .i64 y0, .bool y1] 50)).alloc (.cells #[.string ⟨#[]⟩, .string ⟨#[41]⟩] 51)).heap.size := by simp
        have r1 : ∀ wx, (Op.stringOp .add ⟨#[]⟩ (bytesOf A)).run Tryd.prog wx = .ok (.string (bytesOf ([] ++ A))) wx := fun wx => cat_run [] A (by simp; omega) wx
        have r2 : ∀ wx, (Op.stringOp .add (bytesOf ([] ++ A)) ⟨#[41]⟩).run Tryd.prog wx = .ok (.string (bytesOf ([] ++ A ++ [41]))) wx := fun wx => cat_run ([] ++ A) [41] (by simp; omega) wx
        have hml : 1 ≤ ([] ++ A ++ [41]).length ∧ ([] ++ A ++ [41]).length ≤ 8 := by simp; omega
        clear m0 m1 m2 m3 ha HEK HDK HSK hA
        go_wp2
        generalize (wr.alloc (.cells #[.int .i64 y0, .bool y1] 50)).alloc (.cells #[.string ⟨#[]⟩, .string ⟨#[41]⟩] 51) = X0 at *
        generalize [] ++ A ++ [41] = M at *
        generalize [] ++ A = M1 at *
        have HCK := Lib.hid (fun (W : World) (hW : ∀ q, wr.heap.size ≤ q → q < X0.heap.size → W.heap[q]? = X0.heap[q]?) => show W.cell? ⟨wr.heap.size, 0, none⟩ = some (.int .i64 y0) ∧ W.cell? ⟨wr.heap.size, 1, none⟩ = some (.bool y1) ∧ W.cell? ⟨wr.heap.size + 1, 0, none⟩ = some (.string ⟨#[]⟩) ∧ W.cell? ⟨wr.heap.size + 1, 1, none⟩ = some (.string ⟨#[41]⟩) from
          ⟨(World.cell?_of_block (a := ⟨wr.heap.size, 0, none⟩) (hW _ (Nat.le_refl _) (by show wr.heap.size < _; omega))).trans x0, (World.cell?_of_block (a := ⟨wr.heap.size, 1, none⟩) (hW _ (Nat.le_refl _) (by show wr.heap.size < _; omega))).trans x1, (World.cell?_of_block (a := ⟨wr.heap.size + 1, 0, none⟩) (hW _ (by show _ ≤ wr.heap.size + 1; omega) (by show wr.heap.size + 1 < _; omega))).trans x2, (World.cell?_of_block (a := ⟨wr.heap.size + 1, 1, none⟩) (hW _ (by show _ ≤ wr.heap.size + 1; omega) (by show wr.heap.size + 1 < _; omega))).trans x3⟩)
        have HA := Lib.hid (fun W (hW : Below X0.heap.size X0 W) => show Calls Tryd.prog 25 #[.agg #[.int .i64 y0, .bool y1]] W fun e w' => e = .returned (.string (bytesOf A)) ∧ Below X0.heap.size X0 w' ∧ w'.cell? ⟨wr.heap.size, 0, none⟩ = some (.int .i64 y0) ∧ w'.cell? ⟨wr.heap.size, 1, none⟩ = some (.bool y1) ∧ w'.cell? ⟨wr.heap.size + 1, 0, none⟩ = some (.string ⟨#[]⟩) ∧ w'.cell? ⟨wr.heap.size + 1, 1, none⟩ = some (.string ⟨#[41]⟩) from
          (HY W).mono fun e w' ⟨h1, h2⟩ => ⟨h1, hW.trans (h2.mono hW.size), HCK.out _ fun q _ hq => (hW.trans (h2.mono hW.size)).block q hq⟩)
        have HW := Lib.hid (fun W (hW : Below X0.heap.size X0 W) => show Calls Tryd.prog 24 #[.pointer (some ⟨w1.heap.size, 0, none⟩), .string (bytesOf M)] W fun e w' => (∃ x, e = .returned x) ∧ BldX w' w2.heap.size w1.heap.size (T ++ M) ∧ Beside w1.heap.size w2.heap.size w2 w' ∧ w'.cell? ⟨wr.heap.size, 0, none⟩ = some (.int .i64 y0) ∧ w'.cell? ⟨wr.heap.size, 1, none⟩ = some (.bool y1) ∧ w'.cell? ⟨wr.heap.size + 1, 0, none⟩ = some (.string ⟨#[]⟩) ∧ w'.cell? ⟨wr.heap.size + 1, 1, none⟩ = some (.string ⟨#[41]⟩) from
          (writeString_at w2.heap.size w1.heap.size T M wr W hB (hx.trans (hW.mono hx.size)) hml.1 (by omega) hsz).mono fun e w' ⟨h1, h2, h3, h4⟩ => ⟨h1, h2, hb.trans h3, HCK.out _ fun q h5 hq => (h4 q h5 (Nat.lt_of_lt_of_le hq hW.size)).trans (hW.block q hq)⟩)
        clear HY HCK hB hb hx
        go_region_held3 (fun W => W.cell? ⟨wr.heap.size, 0, none⟩ = some (.int .i64 y0) ∧ W.cell? ⟨wr.heap.size, 1, none⟩ = some (.bool y1) ∧ W.cell? ⟨wr.heap.size + 1, 0, none⟩ = some (.string ⟨#[]⟩) ∧ W.cell? ⟨wr.heap.size + 1, 1, none⟩ = some (.string ⟨#[41]⟩)) (exact ⟨by assumption, by assumption, by assumption, by assumption⟩) (first | (go_at_call 25; (with_reducible refine (HA.out _ ?_).mono ?_); (first | assumption | exact Below.drew (by assumption) | exact Below.refl _ _ | exact Below.drew (Below.refl _ _)); rintro e wa ⟨rfl, hba, ca0, ca1, ca2, ca3⟩) | (go_at_call 24; (with_reducible refine (HW.out _ ?_).mono ?_); (first | assumption | exact Below.drew (by assumption)); rintro e wb ⟨⟨xq, rfl⟩, hB2, hb2, cb0, cb1, cb2, cb3⟩))
        clear HA HW r1 r2 x0 x1 x2 x3 hba ca0 ca1 ca2 ca3 cb0 cb1 cb2 cb3
        rw [HM9.out] at hB2
        go_wp2
        go_roundw
        case rel => exact ⟨k + 1, by omega, by go_num, hB2, hb2⟩
        case measure => simp [intOf]; omega
    · obtain rfl : k = 2 * n := by omega
      rw [HF.out] at hB
      have HS := builderString_some w1.heap.size w1.heap.size (textS p) wr (hB.old (Nat.le_refl _) (by omega)) HP.out
      have hb9 := B0.trans (hb.below (N := w.heap.size) (by omega) (by omega))
      have hs9 := hb.size
      clear HC HV HST HLN HF HP HE HD hB
      go_wp2_with fail
      refine HS.mono ?_
      rintro e w3 ⟨rfl, b3⟩
      have hb10 := hb9.trans (b3.mono hz1)
      clear HS
      go_wp2
      go_ret
      exact ⟨rfl, hb10⟩

set_option maxRecDepth 10000 in
theorem syncText_impl (v : Value) (B : Nat) (p : List Syn) (w : World) (h : Syns w B v p) (hM : Marks w) :
    Calls Tryd.prog 8 #[v] w fun e w' => e = .returned (.string (textSR p)) ∧ Below w.heap.size w w' := by
  cases hok : okS p with
  | false =>
    have HO := validSync_impl v B p w h
    rw [textSR_false hok]
    rw [hok] at HO
    clear h hok
    go_enter Tryd.func8, Tryd.ntmps8
    go_wp2_with fail
    refine HO.mono ?_
    rintro e w1 ⟨rfl, b1⟩
    go_wp2
    go_ret
    exact ⟨rfl, b1⟩
  | true =>
    rw [textSR_true hok]
    have hl := okSL_len (okS_list hok)
    obtain ⟨g, cap, rfl, _, hg, _, _⟩ := h.shape2 hl.1
    exact syncText_row g cap p.length B p w h rfl hg hok hM
end Go.Proofs.YtdgmmaghmdbnjaaDoor
