/- StatesOf, the program's. No conditions. -/
import Derived.Test.YtdghbbnddgngoaaStK
namespace Go.Proofs.Ytdghbbnddgngoaa
open Go.RowKit
set_option linter.unusedSimpArgs false
set_option linter.unusedVariables false

theorem take_set_st' (zs : List Sta) (n k : Nat) (y : Sta) (hk : k < n) (hn : n ≤ zs.length) (hy : zs.getD k s0 = y) :
    (zs.take k ++ List.replicate (n - k) s0).set k y = zs.take (k + 1) ++ List.replicate (n - (k + 1)) s0 := by
  subst hy; exact take_set_st zs n k hk hn

set_option maxRecDepth 10000 in
set_option maxHeartbeats 2000000 in
theorem statesOf_core (v : Value) (B : Nat) (p : List Int) (h : Nat) (w : World) (hI : Ints w B v p) (hz : ofC p 0 (h : Int) = 0) (hok : okPat p = true) (h1 : 1 ≤ h) (hh : h ≤ 10) :
    Calls Try.prog 74 #[v, .int .i64 h] w fun e w' => ∃ u, e = .returned (.tuple #[u, .int .i64 0]) ∧ Sts w' w.heap.size u (ofL p h) ∧ Below w.heap.size w w' := by
  obtain ⟨l1, l2⟩ := okPat_len hok
  obtain ⟨i0, hi, hz0, hz1, hz2⟩ := info_parts Try.infoSt
  have HMo := fun W (hW : Below w.heap.size w W) => momentOf_any v B p 0 h W (hI.below hW) hz
  have HSt := Lib.hid (fun (k : Nat) W (hW : Below w.heap.size w W) (hk : k < p.length) => state_any v B p (k : Int) h W (hI.below hW) hok (by omega) (by omega) h1 hh)
  have HAT := Lib.hid (fun k (hk : k < p.length) => ofL_at p h k hk)
  have HL := Lib.hid (ofL_len p h)
  obtain ⟨xa, xc, rfl⟩ := ints_slO hI
  clear hI hok hz
  generalize p.length = n at *
  go_enter Try.func74, Try.ntmps74
  go_wp2_with fail
  refine (HMo _ (Below.refl _ _)).mono ?_
  rintro e w1 ⟨rfl, b1⟩
  have M1 := Blk.made w1 #[.slice xa n xc, .int .i64 0, .int .i64 h] 107
  have b2 : Below w.heap.size w (w1.alloc (.cells #[.slice xa n xc, .int .i64 0, .int .i64 h] 107)) := b1.alloc b1.size _
  have hs2 : (w1.alloc (.cells #[.slice xa n xc, .int .i64 0, .int .i64 h] 107)).heap.size = w1.heap.size + 1 := by simp
  have hs1 := b1.size
  have c0 := M1.cell 0
  have c1 := M1.cell 1
  have c2 := M1.cell 2
  simp only [List.getElem?_cons_zero, List.getElem?_cons_succ] at c0 c1 c2
  clear HMo b1
  go_wp2_with fail
  refine (period_any _ _ _ _).mono ?_
  rintro e w' ⟨rfl, rfl⟩
  go_wp2_with (first | (at_make; refine wpList_make_full _ rfl _ _ 53 rfl (w1.heap.size + 1) 60 i0 (.agg #[.int .i64 0, .int .i64 0]) 2 Try.underlying53 hi hz0 hz1 _ _ _ _ n rfl rfl rfl rfl (by rw [hz2]; omega) (by unfold maxLen; omega) (by rw [hs2]; exact Nat.le_refl _) ?_; intro w3 hown hgr; refine Hid.out ?_))
  have hS3 : Sts w3 (w1.heap.size + 1) (.slice (some ⟨w1.heap.size + 1, 0, none⟩) n n) ((ofL p h).take 0 ++ List.replicate (n - 0) s0) := by
    have e := made_flat stV_len s0 n (by decide)
    unfold Sts OwnK
    rw [List.take_zero, List.nil_append, Nat.sub_zero, List.length_replicate, ← e]
    rw [hs2] at hown
    exact hown
  have hb3 : Below w.heap.size w w3 := b2.grown hgr (by omega) (by simp)
  have M3 : Blk w3 w1.heap.size [.slice xa n xc, .int .i64 0, .int .i64 h] 107 := M1.block (hgr.block _ M1.lt (by simp))
  clear hown hgr hi hz0 hz1 hz2 M1 b2 c0 c1 c2
  refine Lib.hid ?_
  go_wp2
  go_loopw [25] (fun i wr => ∃ k : Nat, k ≤ n ∧ i = .int .i64 k ∧ Blk wr w1.heap.size [.slice xa n xc, .int .i64 k, .int .i64 h] 107 ∧ Sts wr (w1.heap.size + 1) (.slice (some ⟨w1.heap.size + 1, 0, none⟩) n n) ((ofL p h).take k ++ List.replicate (n - k) s0) ∧ Below w.heap.size w wr) (fun i _ => n - (intOf i).toNat)
  case atStart => exact ⟨0, Nat.zero_le _, rfl, M3, hS3, hb3⟩
  case round =>
    obtain ⟨k, hk, rfl, M, hS, hb⟩ := hrel
    clear M3 hS3 hb3
    have c0 := M.cell 0
    have c1 := M.cell 1
    have c2 := M.cell 2
    simp only [List.getElem?_cons_zero, List.getElem?_cons_succ] at c0 c1 c2
    by_cases hlt : k < n
    · have HF := HSt.out k wr hb hlt
      have hgd := HAT.out k hlt
      have hlk : ((ofL p h).take k).length = k := by rw [List.length_take, HL.out]; omega
      have hkl : k < ((ofL p h).take k ++ List.replicate (n - k) s0).length := by rw [List.length_append, hlk, List.length_replicate]; omega
      have hset := take_set_st' (ofL p h) n k _ hlt (by rw [HL.out]; exact Nat.le_refl _) hgd
      clear HSt HAT hgd hlk
      generalize ofM p (k : Int) h = mk at *
      go_wp2_with fail
      refine HF.mono ?_
      rintro e w2 ⟨rfl, b2⟩
      have M2 := M.below b2 M.lt
      have S2 := hS.below b2
      have hb2 := hb.trans (b2.mono hb.size)
      obtain ⟨d0, d1⟩ := S2.twoS k hkl
      have f0 := S2.free (k * 2)
      have f1 := S2.free (k * 2 + 1)
      have N2 := S2.putS k hkl ((h : Int), (mk : Int))
      rw [hset] at N2
      have M4 := (M2.other (p := ⟨w1.heap.size + 1, k * 2, none⟩) (by show w1.heap.size ≠ w1.heap.size + 1; omega) (.int .i64 h)).other (p := ⟨w1.heap.size + 1, k * 2 + 1, none⟩) (by show w1.heap.size ≠ w1.heap.size + 1; omega) (.int .i64 mk)
      have B4 := below_twoS hb2 (g := w1.heap.size + 1) (o := k * 2) (by omega) (.int .i64 h) (.int .i64 mk)
      have HM5 := Lib.hid (M4.set 1 (.int .i64 ((k + 1 : Nat) : Int)))
      have HS5 := Lib.hid (show Sts ((((w2.setCell ⟨w1.heap.size + 1, k * 2, none⟩ (.int .i64 h)).setCell ⟨w1.heap.size + 1, k * 2 + 1, none⟩ (.int .i64 mk))).setCell ⟨w1.heap.size, 1, none⟩ (.int .i64 ((k + 1 : Nat) : Int))) (w1.heap.size + 1) (.slice (some ⟨w1.heap.size + 1, 0, none⟩) n n) ((ofL p h).take (k + 1) ++ List.replicate (n - (k + 1)) s0) from N2.block fun g hg _ => Below.heap_setCell _ _ _ _ (by have := N2.own_ge hg; show g ≠ w1.heap.size; omega))
      have HB5 := Lib.hid (B4.setCell (p := ⟨w1.heap.size, 1, none⟩) (by show w.heap.size ≤ w1.heap.size; omega) (.int .i64 ((k + 1 : Nat) : Int)))
      have c3 := M4.cell 1
      have f3 := M4.free 1
      simp only [List.getElem?_cons_zero, List.getElem?_cons_succ] at c3
      clear c0 c1 c2 M hS HF hset N2 S2 M2 B4 M4 hkl
      go_wp2
      trace_state
      go_roundw
      case rel => exact ⟨k + 1, by omega, by go_num, by first | exact HM5.out | simpa using HM5.out, by first | exact HS5.out | simpa using HS5.out, by first | exact HB5.out | simpa using HB5.out⟩
      case measure => simp [intOf]; omega
    · obtain rfl : k = n := by omega
      have hfin : Sts wr (w1.heap.size + 1) (.slice (some ⟨w1.heap.size + 1, 0, none⟩) k k) (ofL p h) := by simpa [List.take_of_length_le (Nat.le_of_eq HL.out)] using hS
      clear HSt HAT M hS
      go_wp2
      go_ret2
      exact ⟨_, rfl, hfin.mono (by omega), hb⟩

theorem statesOf_impl (v : Value) (B : Nat) (p : List Int) (height : Int) (w : World) (h : Ints w B v p) :
    Calls Try.prog 74 #[v, .int .i64 height] w fun e w' => ∃ u, e = .returned (.tuple #[u, .int .i64 (ofC p 0 height)]) ∧ Sts w' w.heap.size u (ofLA p height) ∧ Below w.heap.size w w' := by
  by_cases hz : ofC p 0 height = 0
  · rw [show ofLA p height = ofL p height.toNat from if_pos hz]
    obtain ⟨hok, _, ⟨hh1, hh2⟩, _⟩ := ofC_zero hz
    obtain ⟨k, rfl⟩ : ∃ k : Nat, height = k := ⟨height.toNat, by omega⟩
    rw [Int.toNat_natCast, hz]
    exact statesOf_core v B p k w h hz hok (by omega) (by omega)
  · rw [show ofLA p height = [] from if_neg hz]
    have HMo := momentOf_bad v B p 0 height w h hz
    have hne : (ofC p 0 height != 0) = true := by simpa using hz
    obtain ⟨xa, xc, rfl⟩ := ints_slO h
    generalize ofC p 0 height = c at *
    clear h hz
    go_enter Try.func74, Try.ntmps74
    go_wp2_with fail
    refine HMo.mono ?_
    rintro e w1 ⟨rfl, b1⟩
    have b2 : Below w.heap.size w (w1.alloc (.cells #[.slice none 0 0, .int .i64 0, .int .i64 0] 107)) := b1.alloc b1.size _
    clear HMo
    go_wp2
    go_ret2
    exact ⟨_, rfl, OwnK.nil _ _ _ _ _, b2⟩
end Go.Proofs.Ytdghbbnddgngoaa
