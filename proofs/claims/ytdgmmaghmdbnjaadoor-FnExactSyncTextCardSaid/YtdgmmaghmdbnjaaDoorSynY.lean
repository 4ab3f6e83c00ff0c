/- Synchronous patterns: SyncText, the model's. No conditions. -/
import Derived.Test.YtdgmmaghmdbnjaaDoorSynX
import Derived.Test.YtdgmmaghmdbnjaaDoorSynT
import Derived.Outline
import Derived.Deep.RegionHeld3
namespace Go.Proofs.YtdgmmaghmdbnjaaDoor
open Go.RowKit
set_option linter.unusedSimpArgs false
set_option linter.unusedVariables false

set_option maxRecDepth 10000 in
theorem l04Digit_syn (x : Int) (w : World) (h0 : 0 ≤ x) (h1 : x ≤ 15) :
    Calls Tryd.prog 68 #[.int .i64 x] w fun e w' => e = .returned (.string (bytesOf [digB x])) ∧ w' = w := by
  have hsl := fun wx => slice_digit x h0 h1 wx
  have hw : IntKind.i64.wrap (x + 1) = x + 1 := IntWalk.i64_in _ (by omega)
  go_enter Tryd.func68, Tryd.ntmps68
  go_wp2
  go_ret
  exact ⟨rfl, rfl⟩

set_option maxRecDepth 10000 in
theorem l05One_any (v : Int) (c : Bool) (w : World) (h0 : 0 ≤ v) (h1 : v ≤ 15) :
    Calls Tryd.prog 50 #[.agg #[.int .i64 v, .bool c]] w fun e w' => e = .returned (.string (bytesOf (oneT (v, c)))) ∧ Below w.heap.size w w' := by
  have HD := fun W => l04Digit_syn v W h0 h1
  have b1 : Below w.heap.size w (w.alloc (.cells #[.int .i64 v, .bool c] 50)) := (Below.refl _ _).alloc (Nat.le_refl _) _
  have hcat : ∀ wx, (Op.stringOp .add (bytesOf [digB v]) ⟨#[120]⟩).run Tryd.prog wx = .ok (.string (bytesOf [digB v, 120])) wx := fun wx => cat_run [digB v] [120] (by simp) wx
  cases c with
  | false =>
    go_enter Tryd.func50, Tryd.ntmps50
    go_wp2_with fail
    refine (HD _).mono ?_
    rintro e w' ⟨rfl, rfl⟩
    go_wp2
    go_ret
    exact ⟨rfl, b1⟩
  | true =>
    go_enter Tryd.func50, Tryd.ntmps50
    go_wp2_with fail
    refine (HD _).mono ?_
    rintro e w' ⟨rfl, rfl⟩
    go_wp2
    go_ret
    exact ⟨rfl, b1⟩

set_option maxRecDepth 10000 in
set_option maxHeartbeats 1000000 in
theorem l05Text_row (g cap n : Nat) (p : List Syn) (w : World) (hn9 : n ≤ 6) (hn : n = p.length) (hg : g < w.heap.size) (hc : Beats w g n p) (hok : okSL p = true) :
    Calls Tryd.prog 30 #[.slice (some ⟨g, 0, none⟩) n cap] w fun e w' => e = .returned (.string (bytesOf (textS p))) ∧ Below w.heap.size w w' := by
  have HC := Lib.hid hc
  have HV := Lib.hid (fun k (hk : k < n) => okSL_at hok k (by omega))
  have HT := Lib.hid (fun k (hk : k < n) => textS_take p k (by omega))
  have HL := Lib.hid (fun k => textS_takes (p := p) (by omega) k)
  have HF : Hid (p.take n = p) := List.take_of_length_le (by omega)
  clear hc hn hok
  go_enter Tryd.func30, Tryd.ntmps30
  go_wp2
  go_loopw [3, 4] (fun t i wr => ∃ k : Nat, k ≤ n ∧ i = .int .i64 k ∧ t = .string (bytesOf (textS (p.take k))) ∧ Below w.heap.size w wr) (fun _ i _ => n - (intOf i).toNat)
  case atStart => exact ⟨0, Nat.zero_le _, rfl, rfl, Below.refl _ _⟩
  case round =>
    obtain ⟨k, hk, rfl, rfl, hb⟩ := hrel
    by_cases hlt : k < n
    · obtain ⟨c0, c1, c2, c3⟩ := (HC.out k hlt).below hb hg
      obtain ⟨hv1, hv2⟩ := HV.out k hlt
      have HTK := Lib.hid (HT.out k hlt)
      have hTl := HL.out k
      generalize p.getD k s0 = y at *
      generalize textS (p.take k) = T at *
      obtain ⟨⟨y0, y1⟩, y2, y3⟩ := y
      simp only at c0 c1 c2 c3 hv1 hv2
      have q1 := okT_num hv1
      have q2 := okT_num hv2
      simp only at q1 q2
      have hA := oneT_len (y0, y1)
      have hB := oneT_len (y2, y3)
      have HS : Hid (T ++ ([40] ++ oneT (y0, y1) ++ [44] ++ oneT (y2, y3) ++ [41]) = textS (p.take (k + 1))) := HTK.out.symm
      have HA0 := fun W => l05One_any y0 y1 W q1.1 (by omega)
      have HB0 := fun W => l05One_any y2 y3 W q2.1 (by omega)
      clear HC HV HT HL HF HTK hv1 hv2 q1 q2
      generalize oneT (y0, y1) = A at *
      generalize oneT (y2, y3) = B at *
      have HCL := Lib.hid (fun W (hW : Below wr.heap.size wr W) => (show Four wr g (k * 4) ((y0, y1), (y2, y3)) from ⟨c0, c1, c2, c3⟩).below hW (by have := hb.size; omega))
      have hz := hb.size
      have HA := Lib.hid (fun W (hW : Below wr.heap.size wr W) => show Calls Tryd.prog 50 #[.agg #[.int .i64 y0, .bool y1]] W fun e w' => e = .returned (.string (bytesOf A)) ∧ Below wr.heap.size wr w' ∧ w'.cell? ⟨g, k * 4, none⟩ = some (.int .i64 y0) ∧ w'.cell? ⟨g, k * 4 + 1, none⟩ = some (.bool y1) ∧ w'.cell? ⟨g, k * 4 + 2, none⟩ = some (.int .i64 y2) ∧ w'.cell? ⟨g, k * 4 + 3, none⟩ = some (.bool y3) from
        (HA0 W).mono fun e w' ⟨h1, h2⟩ => ⟨h1, hW.trans (h2.mono hW.size), HCL.out _ (hW.trans (h2.mono hW.size))⟩)
      have HB := Lib.hid (fun W (hW : Below wr.heap.size wr W) => show Calls Tryd.prog 50 #[.agg #[.int .i64 y2, .bool y3]] W fun e w' => e = .returned (.string (bytesOf B)) ∧ Below wr.heap.size wr w' ∧ w'.cell? ⟨g, k * 4, none⟩ = some (.int .i64 y0) ∧ w'.cell? ⟨g, k * 4 + 1, none⟩ = some (.bool y1) ∧ w'.cell? ⟨g, k * 4 + 2, none⟩ = some (.int .i64 y2) ∧ w'.cell? ⟨g, k * 4 + 3, none⟩ = some (.bool y3) from
        (HB0 W).mono fun e w' ⟨h1, h2⟩ => ⟨h1, hW.trans (h2.mono hW.size), HCL.out _ (hW.trans (h2.mono hW.size))⟩)
      have r1 : ∀ wx, (Op.stringOp .add ⟨#[40]⟩ (bytesOf A)).run Tryd.prog wx = .ok (.string (bytesOf ([40] ++ A))) wx := fun wx => cat_run [40] A (by simp; omega) wx
      have r2 : ∀ wx, (Op.stringOp .add (bytesOf ([40] ++ A)) ⟨#[44]⟩).run Tryd.prog wx = .ok (.string (bytesOf ([40] ++ A ++ [44]))) wx := fun wx => cat_run ([40] ++ A) [44] (by simp; omega) wx
      have r3 : ∀ wx, (Op.stringOp .add (bytesOf ([40] ++ A ++ [44])) (bytesOf B)).run Tryd.prog wx = .ok (.string (bytesOf ([40] ++ A ++ [44] ++ B))) wx := fun wx => cat_run ([40] ++ A ++ [44]) B (by simp; omega) wx
      have r4 : ∀ wx, (Op.stringOp .add (bytesOf ([40] ++ A ++ [44] ++ B)) ⟨#[41]⟩).run Tryd.prog wx = .ok (.string (bytesOf ([40] ++ A ++ [44] ++ B ++ [41]))) wx := fun wx => cat_run ([40] ++ A ++ [44] ++ B) [41] (by simp; omega) wx
      have r5 : ∀ wx, (Op.stringOp .add (bytesOf T) (bytesOf ([40] ++ A ++ [44] ++ B ++ [41]))).run Tryd.prog wx = .ok (.string (bytesOf (T ++ ([40] ++ A ++ [44] ++ B ++ [41])))) wx := fun wx => cat_run T ([40] ++ A ++ [44] ++ B ++ [41]) (by simp; omega) wx
      generalize T ++ ([40] ++ A ++ [44] ++ B ++ [41]) = T' at *
      generalize [40] ++ A ++ [44] ++ B ++ [41] = X4 at *
      generalize [40] ++ A ++ [44] ++ B = X3 at *
      generalize [40] ++ A ++ [44] = X2 at *
      generalize [40] ++ A = X1 at *
      clear HA0 HB0 HCL hA hB hTl
      go_wp2
      go_region_held3 (fun W => Below wr.heap.size wr W ∧ W.cell? ⟨g, k * 4, none⟩ = some (.int .i64 y0) ∧ W.cell? ⟨g, k * 4 + 1, none⟩ = some (.bool y1) ∧ W.cell? ⟨g, k * 4 + 2, none⟩ = some (.int .i64 y2) ∧ W.cell? ⟨g, k * 4 + 3, none⟩ = some (.bool y3)) (first | exact ⟨by assumption, by assumption, by assumption, by assumption, by assumption⟩ | exact ⟨Below.drew (by assumption), by assumption, by assumption, by assumption, by assumption⟩ | exact ⟨Below.refl _ _, by assumption, by assumption, by assumption, by assumption⟩ | exact ⟨Below.drew (Below.refl _ _), by assumption, by assumption, by assumption, by assumption⟩) (first | (go_at_call 50; (with_reducible refine (HA.out _ ?_).mono ?_); (first | assumption | exact Below.drew (by assumption) | exact Below.refl _ _ | exact Below.drew (Below.refl _ _)); rintro e wa ⟨rfl, hba, ca0, ca1, ca2, ca3⟩) | (go_at_call 50; (with_reducible refine (HB.out _ ?_).mono ?_); (first | assumption | exact Below.drew (by assumption) | exact Below.refl _ _ | exact Below.drew (Below.refl _ _)); rintro e wb ⟨rfl, hbb, cb0, cb1, cb2, cb3⟩))
      have hb9 := hb.trans (hbb.mono hz)
      clear HA HB r1 r2 r3 r4 r5 hb c0 c1 c2 c3 hba hbb ca0 ca1 ca2 ca3 cb0 cb1 cb2 cb3
      go_wp2
      go_roundw
      case rel => exact ⟨k + 1, by omega, by go_num, by rw [HS.out], hb9⟩
      case measure => simp [intOf]; omega
    · obtain rfl : k = n := by omega
      rw [HF.out]
      clear HC HV HT HL HF
      go_wp2
      go_ret
      exact ⟨rfl, hb⟩

theorem l05Text_any (v : Value) (B : Nat) (p : List Syn) (w : World) (h : Syns w B v p) (hok : okSL p = true) :
    Calls Tryd.prog 30 #[v] w fun e w' => e = .returned (.string (bytesOf (textS p))) ∧ Below w.heap.size w w' := by
  have hl := okSL_len hok
  obtain ⟨g, cap, rfl, _, hg, _, _⟩ := h.shape2 hl.1
  exact l05Text_row g cap p.length p w hl.2 rfl hg h.beats hok

set_option maxRecDepth 10000 in
theorem syncText_spec (v : Value) (B : Nat) (p : List Syn) (w : World) (h : Syns w B v p) :
    Calls Tryd.prog 12 #[v] w fun e w' => e = .returned (.string (textSR p)) ∧ Below w.heap.size w w' := by
  have HO := l05Ok_any v B p w h
  cases hok : okS p with
  | false =>
    rw [textSR_false hok]
    rw [hok] at HO
    clear h hok
    go_enter Tryd.func12, Tryd.ntmps12
    go_wp2_with fail
    refine HO.mono ?_
    rintro e w1 ⟨rfl, b1⟩
    go_wp2
    go_ret
    exact ⟨rfl, b1⟩
  | true =>
    rw [textSR_true hok]
    have HT := fun W (hW : Below w.heap.size w W) => l05Text_any v B p W (h.below hW) (okS_list hok)
    rw [hok] at HO
    clear h hok
    go_enter Tryd.func12, Tryd.ntmps12
    go_wp2_with fail
    refine HO.mono ?_
    rintro e w1 ⟨rfl, b1⟩
    clear HO
    go_wp2_with fail
    refine (HT _ b1).mono ?_
    rintro e w2 ⟨rfl, b2⟩
    replace b1 := b1.trans (b2.mono b1.size)
    clear HT b2
    go_wp2
    go_ret
    exact ⟨rfl, b1⟩
end Go.Proofs.YtdgmmaghmdbnjaaDoor
