/- The walk of the law FnExactTogetherOf: it returns true. No conditions. -/
import Derived.Test.YtomhhognfpfacaaPasR
import Derived.Test.YtomhhognfpfacaaTog
namespace Go.Proofs.Ytomhhognfpfacaa
open Go.RowKit
set_option linter.unusedSimpArgs false
set_option linter.unusedVariables false

theorem togA_len (a b : List Int) : (togA a b).length ≤ 8 ∧ (togB a b).length ≤ 8 := by
  cases h : togOk a b with
  | false => rw [(tog_bad h).1, (tog_bad h).2]; simp
  | true =>
    rw [(tog_good h).1, (tog_good h).2, selfP_len, selfP_len]
    simp only [togOk, Bool.and_eq_true, decide_eq_true_eq] at h
    omega

set_option maxRecDepth 100000 in
set_option maxHeartbeats 8000000 in
theorem walk_TogetherOf (a0 : Option Addr) (len0 cap0 : Nat) (z0 : List Int) (a1 : Option Addr) (len1 cap1 : Nat) (z1 : List Int) (w : World) (r0 : IsRow .i64 w a0 len0 cap0 z0) (r1 : IsRow .i64 w a1 len1 cap1 z1) :
    Calls Try.prog 11 #[.slice a0 len0 cap0, .slice a1 len1 cap1] w fun e w' => e = .returned (.bool true) ∧ Below w.heap.size w w' := by
  have hm0 := r0.parts.2.1
  have hm1 := r1.parts.2.1
  unfold maxLen at hm0 hm1
  by_cases hbig0 : len0 ≤ 1048576
  · by_cases hbig1 : len1 ≤ 1048576
    · have BB := Below.refl w.heap.size w
      have hp0 : (z0.take len0).length ≤ 1048576 := by simp; omega
      have hp1 : (z1.take len1).length ≤ 1048576 := by simp; omega
      obtain ⟨hta, htb⟩ := togA_len (z0.take len0) (z1.take len1)
      generalize hP : z0.take len0 = P at *
      generalize hQ : z1.take len1 = Q at *
      have HP := Lib.hid hP
      have HQ := Lib.hid hQ
      clear hP hQ
      go_enter Try.func11, Try.ntmps11
      have HC := toInt64S_ex a0 len0 cap0 z0 _ (r0.below BB) hbig0
      go_wp2_with fail
      refine HC.mono ?_
      rintro e wd1 ⟨vF1, rfl, F1, bb⟩
      clear HC
      have S1 := bb.size
      try simp only [World.size_alloc] at S1
      replace BB := BB.trans (bb.mono BB.size)
      clear bb
      replace F1 := Rw.mk' F1
      try simp only [World.size_alloc] at F1
      rw [HP.out] at F1
      have HC := toInt64S_ex a1 len1 cap1 z1 _ (r1.below BB) hbig1
      go_wp2_with fail
      refine HC.mono ?_
      rintro e wd2 ⟨vF2, rfl, F2, bb⟩
      clear HC
      have S2 := bb.size
      try simp only [World.size_alloc] at S2
      replace F1 := F1.below bb
      replace BB := BB.trans (bb.mono BB.size)
      clear bb
      replace F2 := Rw.mk' F2
      try simp only [World.size_alloc] at F2
      rw [HQ.out] at F2
      have HC := togetherOf_spec _ _ _ _ _ _ _ F1.ints F2.ints hp0 hp1
      go_wp2_with fail
      refine HC.mono ?_
      rintro e wd3 ⟨xF3, yF3, zF3, pF3, qF3, rF3, rfl, F3, bb⟩
      clear HC
      have S3 := bb.size
      try simp only [World.size_alloc] at S3
      replace F1 := F1.below bb
      replace F2 := F2.below bb
      replace BB := BB.trans (bb.mono BB.size)
      clear bb
      try simp only [World.size_alloc] at F3
      have al := al2 wd3 (.slice xF3 yF3 zF3) (.slice pF3 qF3 rF3)
      have VF3 := Va2.made wd3 (.slice xF3 yF3 zF3) (.slice pF3 qF3 rF3)
      replace F1 := F1.below al
      replace F2 := F2.below al
      replace F3 := F3.below al
      replace BB := BB.trans (al.mono BB.size)
      clear al
      have TF3 := VF3.lt
      try simp only [World.size_alloc] at TF3
      clear F1
      clear F2
      have cVF30 := VF3.fst
      have cVF31 := VF3.snd
      have HC := toInt64S_ex a0 len0 cap0 z0 _ (r0.below BB) hbig0
      go_wp2_with fail
      refine HC.mono ?_
      rintro e wd4 ⟨vF4, rfl, F4, bb⟩
      clear HC
      clear cVF30 cVF31
      have S4 := bb.size
      try simp only [World.size_alloc] at S4
      replace F3 := F3.below bb
      replace VF3 := VF3.below bb
      replace BB := BB.trans (bb.mono BB.size)
      clear bb
      replace F4 := Rw.mk' F4
      try simp only [World.size_alloc] at F4
      rw [HP.out] at F4
      have cVF30 := VF3.fst
      have cVF31 := VF3.snd
      have HC := toInt64S_ex a1 len1 cap1 z1 _ (r1.below BB) hbig1
      go_wp2_with fail
      refine HC.mono ?_
      rintro e wd5 ⟨vF5, rfl, F5, bb⟩
      clear HC
      clear cVF30 cVF31
      have S5 := bb.size
      try simp only [World.size_alloc] at S5
      replace F3 := F3.below bb
      replace F4 := F4.below bb
      replace VF3 := VF3.below bb
      replace BB := BB.trans (bb.mono BB.size)
      clear bb
      replace F5 := Rw.mk' F5
      try simp only [World.size_alloc] at F5
      rw [HQ.out] at F5
      have cVF30 := VF3.fst
      have cVF31 := VF3.snd
      have HC := togetherOf_impl _ _ _ _ _ _ _ F4.ints F5.ints hp0 hp1
      go_wp2_with fail
      refine HC.mono ?_
      rintro e wd6 ⟨xF6, yF6, zF6, pF6, qF6, rF6, rfl, F6, bb⟩
      clear HC
      clear cVF30 cVF31
      have S6 := bb.size
      try simp only [World.size_alloc] at S6
      replace F3 := F3.below bb
      replace F4 := F4.below bb
      replace F5 := F5.below bb
      replace VF3 := VF3.below bb
      replace BB := BB.trans (bb.mono BB.size)
      clear bb
      try simp only [World.size_alloc] at F6
      have al := al2 wd6 (.slice xF6 yF6 zF6) (.slice pF6 qF6 rF6)
      have VF6 := Va2.made wd6 (.slice xF6 yF6 zF6) (.slice pF6 qF6 rF6)
      replace F3 := F3.below al
      replace F4 := F4.below al
      replace F5 := F5.below al
      replace F6 := F6.below al
      replace VF3 := VF3.below al
      replace BB := BB.trans (al.mono BB.size)
      clear al
      have TF6 := VF6.lt
      try simp only [World.size_alloc] at TF6
      have cVF30 := VF3.fst
      have cVF31 := VF3.snd
      have cVF60 := VF6.fst
      have cVF61 := VF6.snd
      have HC := eqPassing_any _ _ _ _ _ _ _ _ _ _ _ F6 F3
      go_wp2_with fail
      refine HC.mono ?_
      rintro e wd7 ⟨rfl, bb⟩
      clear HC
      clear cVF30 cVF31 cVF60 cVF61
      have S7 := bb.size
      try simp only [World.size_alloc] at S7
      replace F3 := F3.below bb
      replace F4 := F4.below bb
      replace F5 := F5.below bb
      replace F6 := F6.below bb
      replace VF3 := VF3.below bb
      replace VF6 := VF6.below bb
      replace BB := BB.trans (bb.mono BB.size)
      clear bb
      have cVF30 := VF3.fst
      have cVF31 := VF3.snd
      have cVF60 := VF6.fst
      have cVF61 := VF6.snd
      have HC := toInt64S_ex a0 len0 cap0 z0 _ (r0.below BB) hbig0
      go_wp2_with fail
      refine HC.mono ?_
      rintro e wd8 ⟨vF7, rfl, F7, bb⟩
      clear HC
      clear cVF30 cVF31 cVF60 cVF61
      have S8 := bb.size
      try simp only [World.size_alloc] at S8
      replace F3 := F3.below bb
      replace F4 := F4.below bb
      replace F5 := F5.below bb
      replace F6 := F6.below bb
      replace VF3 := VF3.below bb
      replace VF6 := VF6.below bb
      replace BB := BB.trans (bb.mono BB.size)
      clear bb
      replace F7 := Rw.mk' F7
      try simp only [World.size_alloc] at F7
      rw [HP.out] at F7
      have cVF30 := VF3.fst
      have cVF31 := VF3.snd
      have cVF60 := VF6.fst
      have cVF61 := VF6.snd
      have HC := eqInt64S_any _ _ _ _ _ _ F4.ints F7.ints
      go_wp2_with fail
      refine HC.mono ?_
      rintro e wd9 ⟨rfl, bb⟩
      clear HC
      clear cVF30 cVF31 cVF60 cVF61
      have S9 := bb.size
      try simp only [World.size_alloc] at S9
      replace F3 := F3.below bb
      replace F4 := F4.below bb
      replace F5 := F5.below bb
      replace F6 := F6.below bb
      replace F7 := F7.below bb
      replace VF3 := VF3.below bb
      replace VF6 := VF6.below bb
      replace BB := BB.trans (bb.mono BB.size)
      clear bb
      clear F7
      have cVF30 := VF3.fst
      have cVF31 := VF3.snd
      have cVF60 := VF6.fst
      have cVF61 := VF6.snd
      have HC := toInt64S_ex a1 len1 cap1 z1 _ (r1.below BB) hbig1
      go_wp2_with fail
      refine HC.mono ?_
      rintro e wd10 ⟨vF8, rfl, F8, bb⟩
      clear HC
      clear cVF30 cVF31 cVF60 cVF61
      have S10 := bb.size
      try simp only [World.size_alloc] at S10
      replace F3 := F3.below bb
      replace F4 := F4.below bb
      replace F5 := F5.below bb
      replace F6 := F6.below bb
      replace VF3 := VF3.below bb
      replace VF6 := VF6.below bb
      replace BB := BB.trans (bb.mono BB.size)
      clear bb
      replace F8 := Rw.mk' F8
      try simp only [World.size_alloc] at F8
      rw [HQ.out] at F8
      have cVF30 := VF3.fst
      have cVF31 := VF3.snd
      have cVF60 := VF6.fst
      have cVF61 := VF6.snd
      have HC := eqInt64S_any _ _ _ _ _ _ F5.ints F8.ints
      go_wp2_with fail
      refine HC.mono ?_
      rintro e wd11 ⟨rfl, bb⟩
      clear HC
      clear cVF30 cVF31 cVF60 cVF61
      have S11 := bb.size
      try simp only [World.size_alloc] at S11
      replace F3 := F3.below bb
      replace F4 := F4.below bb
      replace F5 := F5.below bb
      replace F6 := F6.below bb
      replace F8 := F8.below bb
      replace VF3 := VF3.below bb
      replace VF6 := VF6.below bb
      replace BB := BB.trans (bb.mono BB.size)
      clear bb
      clear F8
      have cVF30 := VF3.fst
      have cVF31 := VF3.snd
      have cVF60 := VF6.fst
      have cVF61 := VF6.snd
      have HC := markInt64S_any _ _ _ 1 _ F4.ints (by omega) (by omega)
      go_wp2_with fail
      refine HC.mono ?_
      rintro e wd12 ⟨rfl, NN, gr⟩
      clear HC
      clear cVF30 cVF31 cVF60 cVF61
      have ww := F4.marked gr
      replace NN := F4.again NN
      clear gr
      have S12 := ww.size
      try simp only [World.size_alloc] at S12
      replace BB := ww.below BB (by omega) BB.size
      replace F3 := F3.within ww (by omega)
      replace F5 := F5.within ww (by omega)
      replace F6 := F6.within ww (by omega)
      replace VF3 := VF3.within ww (by omega)
      replace VF6 := VF6.within ww (by omega)
      replace F4 := NN
      clear NN ww
      have cVF30 := VF3.fst
      have cVF31 := VF3.snd
      have cVF60 := VF6.fst
      have cVF61 := VF6.snd
      have HC := markInt64S_any _ _ _ (1 + (P.length : Int)) _ F5.ints (by omega) (by omega)
      go_wp2_with fail
      refine HC.mono ?_
      rintro e wd13 ⟨rfl, NN, gr⟩
      clear HC
      clear cVF30 cVF31 cVF60 cVF61
      have ww := F5.marked gr
      replace NN := F5.again NN
      clear gr
      have S13 := ww.size
      try simp only [World.size_alloc] at S13
      replace BB := ww.below BB (by omega) BB.size
      replace F3 := F3.within ww (by omega)
      replace F4 := F4.within ww (by omega)
      replace F6 := F6.within ww (by omega)
      replace VF3 := VF3.within ww (by omega)
      replace VF6 := VF6.within ww (by omega)
      replace F5 := NN
      clear NN ww
      have cVF30 := VF3.fst
      have cVF31 := VF3.snd
      have cVF60 := VF6.fst
      have cVF61 := VF6.snd
      have HC := eqPassing_any _ _ _ _ _ _ _ _ _ _ _ F6 F3
      go_wp2_with fail
      refine HC.mono ?_
      rintro e wd14 ⟨rfl, bb⟩
      clear HC
      clear cVF30 cVF31 cVF60 cVF61
      have S14 := bb.size
      try simp only [World.size_alloc] at S14
      replace F3 := F3.below bb
      replace F4 := F4.below bb
      replace F5 := F5.below bb
      replace F6 := F6.below bb
      replace VF3 := VF3.below bb
      replace VF6 := VF6.below bb
      replace BB := BB.trans (bb.mono BB.size)
      clear bb
      have cVF30 := VF3.fst
      have cVF31 := VF3.snd
      have cVF60 := VF6.fst
      have cVF61 := VF6.snd
      have HC := markPassing_any _ _ _ _ _ _ 1 _ F6 (by omega) (by omega)
      go_wp2_with fail
      refine HC.mono ?_
      rintro e wd15 ⟨rfl, NN, ww⟩
      clear HC
      clear cVF30 cVF31 cVF60 cVF61
      have S15 := ww.size
      try simp only [World.size_alloc] at S15
      replace BB := ww.below BB (by omega) BB.size
      replace F3 := F3.within ww (by omega)
      replace F4 := F4.within ww (by omega)
      replace F5 := F5.within ww (by omega)
      replace VF3 := VF3.within ww (by omega)
      replace VF6 := VF6.within ww (by omega)
      replace F6 := NN
      clear NN ww
      have cVF30 := VF3.fst
      have cVF31 := VF3.snd
      have cVF60 := VF6.fst
      have cVF61 := VF6.snd
      have HC := heldPassing_any _ _ _ _ _ _ 1 _ F6 (by omega) (by omega)
      go_wp2_with fail
      refine HC.mono ?_
      rintro e wd16 ⟨rfl, bb⟩
      clear HC
      clear cVF30 cVF31 cVF60 cVF61
      have S16 := bb.size
      try simp only [World.size_alloc] at S16
      replace F3 := F3.below bb
      replace F4 := F4.below bb
      replace F5 := F5.below bb
      replace F6 := F6.below bb
      replace VF3 := VF3.below bb
      replace VF6 := VF6.below bb
      replace BB := BB.trans (bb.mono BB.size)
      clear bb
      have cVF30 := VF3.fst
      have cVF31 := VF3.snd
      have cVF60 := VF6.fst
      have cVF61 := VF6.snd
      have HC := toInt64S_ex a0 len0 cap0 z0 _ (r0.below BB) hbig0
      go_wp2_with fail
      refine HC.mono ?_
      rintro e wd17 ⟨vF9, rfl, F9, bb⟩
      clear HC
      clear cVF30 cVF31 cVF60 cVF61
      have S17 := bb.size
      try simp only [World.size_alloc] at S17
      replace F3 := F3.below bb
      replace F4 := F4.below bb
      replace F5 := F5.below bb
      replace F6 := F6.below bb
      replace VF3 := VF3.below bb
      replace VF6 := VF6.below bb
      replace BB := BB.trans (bb.mono BB.size)
      clear bb
      replace F9 := Rw.mk' F9
      try simp only [World.size_alloc] at F9
      rw [HP.out] at F9
      have cVF30 := VF3.fst
      have cVF31 := VF3.snd
      have cVF60 := VF6.fst
      have cVF61 := VF6.snd
      have HC := toInt64S_ex a1 len1 cap1 z1 _ (r1.below BB) hbig1
      go_wp2_with fail
      refine HC.mono ?_
      rintro e wd18 ⟨vF10, rfl, F10, bb⟩
      clear HC
      clear cVF30 cVF31 cVF60 cVF61
      have S18 := bb.size
      try simp only [World.size_alloc] at S18
      replace F3 := F3.below bb
      replace F4 := F4.below bb
      replace F5 := F5.below bb
      replace F6 := F6.below bb
      replace F9 := F9.below bb
      replace VF3 := VF3.below bb
      replace VF6 := VF6.below bb
      replace BB := BB.trans (bb.mono BB.size)
      clear bb
      replace F10 := Rw.mk' F10
      try simp only [World.size_alloc] at F10
      rw [HQ.out] at F10
      have cVF30 := VF3.fst
      have cVF31 := VF3.snd
      have cVF60 := VF6.fst
      have cVF61 := VF6.snd
      have HC := togetherOf_impl _ _ _ _ _ _ _ F9.ints F10.ints hp0 hp1
      go_wp2_with fail
      refine HC.mono ?_
      rintro e wd19 ⟨xF11, yF11, zF11, pF11, qF11, rF11, rfl, F11, bb⟩
      clear HC
      clear cVF30 cVF31 cVF60 cVF61
      have S19 := bb.size
      try simp only [World.size_alloc] at S19
      replace F3 := F3.below bb
      replace F4 := F4.below bb
      replace F5 := F5.below bb
      replace F6 := F6.below bb
      replace F9 := F9.below bb
      replace F10 := F10.below bb
      replace VF3 := VF3.below bb
      replace VF6 := VF6.below bb
      replace BB := BB.trans (bb.mono BB.size)
      clear bb
      try simp only [World.size_alloc] at F11
      have al := al2 wd19 (.slice xF11 yF11 zF11) (.slice pF11 qF11 rF11)
      have VF11 := Va2.made wd19 (.slice xF11 yF11 zF11) (.slice pF11 qF11 rF11)
      replace F3 := F3.below al
      replace F4 := F4.below al
      replace F5 := F5.below al
      replace F6 := F6.below al
      replace F9 := F9.below al
      replace F10 := F10.below al
      replace F11 := F11.below al
      replace VF3 := VF3.below al
      replace VF6 := VF6.below al
      replace BB := BB.trans (al.mono BB.size)
      clear al
      have TF11 := VF11.lt
      try simp only [World.size_alloc] at TF11
      clear F9
      clear F10
      have cVF30 := VF3.fst
      have cVF31 := VF3.snd
      have cVF60 := VF6.fst
      have cVF61 := VF6.snd
      have cVF110 := VF11.fst
      have cVF111 := VF11.snd
      have HC := eqPassing_any _ _ _ _ _ _ _ _ _ _ _ F11 F3
      go_wp2_with fail
      refine HC.mono ?_
      rintro e wd20 ⟨rfl, bb⟩
      clear HC
      clear cVF30 cVF31 cVF60 cVF61 cVF110 cVF111
      have S20 := bb.size
      try simp only [World.size_alloc] at S20
      replace F3 := F3.below bb
      replace F4 := F4.below bb
      replace F5 := F5.below bb
      replace F6 := F6.below bb
      replace F11 := F11.below bb
      replace VF3 := VF3.below bb
      replace VF6 := VF6.below bb
      replace VF11 := VF11.below bb
      replace BB := BB.trans (bb.mono BB.size)
      clear bb
      have cVF30 := VF3.fst
      have cVF31 := VF3.snd
      have cVF60 := VF6.fst
      have cVF61 := VF6.snd
      have cVF110 := VF11.fst
      have cVF111 := VF11.snd
      have HC := heldPassing_any _ _ _ _ _ _ 1 _ F6 (by omega) (by omega)
      go_wp2_with fail
      refine HC.mono ?_
      rintro e wd21 ⟨rfl, bb⟩
      clear HC
      clear cVF30 cVF31 cVF60 cVF61 cVF110 cVF111
      have S21 := bb.size
      try simp only [World.size_alloc] at S21
      replace F3 := F3.below bb
      replace F4 := F4.below bb
      replace F5 := F5.below bb
      replace F6 := F6.below bb
      replace F11 := F11.below bb
      replace VF3 := VF3.below bb
      replace VF6 := VF6.below bb
      replace VF11 := VF11.below bb
      replace BB := BB.trans (bb.mono BB.size)
      clear bb
      go_wp2
      go_ret
      exact ⟨rfl, BB⟩
    · have hb1 : (1048576 : Int) < (len1 : Int) := by omega
      go_enter Try.func11, Try.ntmps11
      go_wp2
      go_ret
      exact ⟨rfl, Below.refl _ _⟩
  · have hb0 : (1048576 : Int) < (len0 : Int) := by omega
    go_enter Try.func11, Try.ntmps11
    go_wp2
    go_ret
    exact ⟨rfl, Below.refl _ _⟩
end Go.Proofs.Ytomhhognfpfacaa
