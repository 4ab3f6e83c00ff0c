/- The links of throws, the program's: first, join. Conditions: links that lead downwards. -/
import Derived.Test.YtlpeigeadjojnabOrA
import Derived.Test.YtlpeigeadjojnabOwnK
namespace Go.Proofs.Ytlpeigeadjojnab
open Go.RowKit
set_option linter.unusedSimpArgs false
set_option linter.unusedVariables false

/-- a link's two cells: its index, and where it leads, in the array of block g -/
def lp (g : Nat) : Option Nat → Value
  | none => .pointer none
  | some k => .pointer (some ⟨g, k * 2, none⟩)
abbrev Lnk := Int × Option Nat
def lk0 : Lnk := (0, none)
def lkV (g : Nat) (x : Lnk) : List Value := [.int .i64 x.1, lp g x.2]
theorem lkV_len (g : Nat) (x : Lnk) : (lkV g x).length = 2 := rfl
/-- links with their own indices -/
def lksL (n : Nat) (u : Nat → Option Nat) : List Lnk := (List.range n).map fun j : Nat => ((j : Int), u j)
theorem lksL_len (n : Nat) (u : Nat → Option Nat) : (lksL n u).length = n := by simp [lksL]
theorem lksL_at (n : Nat) (u : Nat → Option Nat) (j : Nat) (hj : j < n) : (lksL n u).getD j lk0 = ((j : Int), u j) := by simp [lksL, hj]
abbrev Lks (w : World) (B g n cap : Nat) (u : Nat → Option Nat) : Prop := OwnK 58 2 (lkV g) w B (.slice (some ⟨g, 0, none⟩) n cap) (lksL n u)
theorem Lks.two {w : World} {B g n cap : Nat} {u : Nat → Option Nat} (h : Lks w B g n cap u) (j : Nat) (hj : j < n) : w.cell? ⟨g, j * 2, none⟩ = some (.int .i64 j) ∧ w.cell? ⟨g, j * 2 + 1, none⟩ = some (lp g (u j)) := by
  have h0 := h.cell (lkV_len g) lk0 j 0 (by rw [lksL_len]; exact hj) (by decide)
  have h1 := h.cell (lkV_len g) lk0 j 1 (by rw [lksL_len]; exact hj) (by decide)
  rw [lksL_at n u j hj] at h0 h1
  exact ⟨h0, h1⟩
theorem lksL_hang (n : Nat) (u : Nat → Option Nat) (b a : Nat) : (lksL n u).set b ((b : Int), some a) = lksL n (hang u b a) := by
  apply List.ext_getElem
  · simp [lksL]
  · intro i h1 h2
    simp only [lksL, List.getElem_set, List.getElem_map, List.getElem_range, hang]
    by_cases e : b = i
    · subst e; simp
    · rw [if_neg e, if_neg (fun h => e h.symm)]
theorem Lks.hung {w : World} {B g n cap : Nat} {u : Nat → Option Nat} (h : Lks w B g n cap u) (b a : Nat) (hb : b < n) : Lks (w.setCell ⟨g, b * 2 + 1, none⟩ (.pointer (some ⟨g, a * 2, none⟩))) B g n cap (hang u b a) := by
  have := h.put (lkV_len g) lk0 b 1 (.pointer (some ⟨g, a * 2, none⟩)) ((b : Int), some a) (by rw [lksL_len]; exact hb) (by decide) (by rw [lksL_at n u b hb]; rfl)
  rw [lksL_hang] at this
  exact this

def ptOf : Value → Nat
  | .pointer (some a) => a.off
  | _ => 0

set_option maxRecDepth 10000 in
theorem first_any (B g n cap : Nat) (u : Nat → Option Nat) (j r : Nat) (w : World) (h : Lks w B g n cap u) (hd : ∀ j k, u j = some k → k < j) (hj : j < n) (hr : Rt u j r) :
    Calls Try.prog 33 #[.pointer (some ⟨g, j * 2, none⟩)] w fun e w' => e = .returned (.pointer (some ⟨g, r * 2, none⟩)) ∧ w = w' := by
  have HC := Lib.hid (fun i (hi : i < n) => h.two i hi)
  have HD := Lib.hid hd
  have HR := Lib.hid hr
  clear h hd hr
  go_enter Try.func33, Try.ntmps33
  go_wp2
  go_loop [0] (fun q => ∃ i : Nat, i ≤ j ∧ q = .pointer (some ⟨g, i * 2, none⟩) ∧ Hid (Rt u i r)) (fun q => ptOf q)
  case atStart => exact ⟨j, Nat.le_refl _, rfl, HR⟩
  case round =>
    obtain ⟨i, hi, rfl, hrt⟩ := hrel
    obtain ⟨c0, c1⟩ := HC.out i (by omega)
    cases hu : u i with
    | none =>
      rw [hu] at c1
      have e := hrt.out.one _ (.here hu)
      subst e
      have c1' : w.cell? ⟨g, r * 2 + 1, none⟩ = some (.pointer none) := c1
      clear c1 HC HD HR hrt hu
      go_wp2
      go_ret
      exact ⟨rfl, rfl⟩
    | some k =>
      rw [hu] at c1
      have c1' : w.cell? ⟨g, i * 2 + 1, none⟩ = some (.pointer (some ⟨g, k * 2, none⟩)) := c1
      have hk := HD.out i k hu
      have hrk : Rt u k r := by
        cases hrt.out with
        | here h0 => rw [hu] at h0; cases h0
        | up h1 h2 => rw [hu] at h1; cases h1; exact h2
      have HRK := Lib.hid hrk
      clear c1 HC HD HR hrt hu hrk
      go_wp2
      go_round
      case rel => exact ⟨k, by omega, rfl, HRK⟩
      case measure => simp [ptOf]; omega

theorem grown_set {w wr : World} {g o : Nat} (h : w.grownBy wr (some g)) (x : Value) : w.grownBy (wr.setCell ⟨g, o, none⟩ x) (some g) :=
  ⟨h.os, h.tape, h.output, by simpa using h.size, fun k hk hne => by rw [Below.heap_setCell _ _ _ _ (by simpa using fun e => hne (by rw [e]))]; exact h.block k hk hne⟩
theorem grown_drewN {w wr : World} {o : Option Nat} (h : w.grownBy wr o) (m : Nat) : w.grownBy (wr.drewN m) o := ⟨h.os, h.tape, h.output, h.size, h.block⟩

/-- the links behind a join of two roots -/
def jnU (u : Nat → Option Nat) (a b : Nat) : Nat → Option Nat := if a < b then hang u b a else if b < a then hang u a b else u

set_option maxRecDepth 10000 in
set_option maxHeartbeats 1000000 in
theorem join_any (B g n cap : Nat) (u : Nat → Option Nat) (i j a b : Nat) (w : World) (h : Lks w B g n cap u) (hd : ∀ j k, u j = some k → k < j) (hi : i < n) (hj : j < n) (ha : Rt u i a) (hb : Rt u j b) (hn : n ≤ 100) :
    Calls Try.prog 45 #[.pointer (some ⟨g, i * 2, none⟩), .pointer (some ⟨g, j * 2, none⟩)] w fun e w' => e = .returned (.tuple #[]) ∧ Lks w' B g n cap (jnU u a b) ∧ w.grownBy w' (some g) := by
  have hal : a < n := by have := ha.le hd; omega
  have hbl : b < n := by have := hb.le hd; omega
  have h1 := first_any B g n cap u i a w h hd hi ha
  have h2 := first_any B g n cap u j b w h hd hj hb
  obtain ⟨a0, a1⟩ := h.two a hal
  obtain ⟨b0, b1⟩ := h.two b hbl
  have fr := h.free
  have fa := fr (a * 2 + 1)
  have fb := fr (b * 2 + 1)
  have HU := Lib.hid h
  clear h fr hd
  rcases Nat.lt_trichotomy a b with hlt | hlt | hlt
  · rw [show jnU u a b = hang u b a from if_pos hlt]
    have hc : decide ((a : Int) < (b : Int)) = true := decide_eq_true (by omega)
    have hw := fun m => Lks.hung (w := w.drewN m) (show Lks (w.drewN m) B g n cap u from HU.out) b a hbl
    have HW := Lib.hid hw
    clear hw
    go_enter Try.func45, Try.ntmps45
    go_wp2_with fail
    refine h1.mono ?_
    rintro e w1 ⟨rfl, rfl⟩
    go_wp2_with fail
    refine h2.mono ?_
    rintro e w1 ⟨rfl, rfl⟩
    clear h1 h2
    go_wp2
    go_quiet (fail)
    go_wp2
    go_end0
    exact ⟨rfl, HW.out _, grown_set (grown_drewN (World.grownBy.refl _ _) _) _⟩
  · rw [show jnU u a b = u from by rw [jnU, if_neg (by omega), if_neg (by omega)]]
    subst hlt
    go_enter Try.func45, Try.ntmps45
    go_wp2_with fail
    refine h1.mono ?_
    rintro e w1 ⟨rfl, rfl⟩
    go_wp2_with fail
    refine h2.mono ?_
    rintro e w1 ⟨rfl, rfl⟩
    clear h1 h2
    go_wp2
    go_quiet (fail)
    go_wp2
    go_quiet (fail)
    go_wp2
    go_end0
    exact ⟨rfl, HU.out, grown_drewN (grown_drewN (World.grownBy.refl _ _) _) _⟩
  · rw [show jnU u a b = hang u a b from by rw [jnU, if_neg (by omega), if_pos hlt]]
    have hw := fun m => Lks.hung (w := w.drewN m) (show Lks (w.drewN m) B g n cap u from HU.out) a b hal
    have HW := Lib.hid hw
    clear hw
    go_enter Try.func45, Try.ntmps45
    go_wp2_with fail
    refine h1.mono ?_
    rintro e w1 ⟨rfl, rfl⟩
    go_wp2_with fail
    refine h2.mono ?_
    rintro e w1 ⟨rfl, rfl⟩
    clear h1 h2
    go_wp2
    go_quiet (fail)
    go_wp2
    go_quiet (fail)
    go_wp2
    go_end0
    exact ⟨rfl, HW.out _, grown_set (grown_drewN (World.grownBy.refl _ _) _) _⟩
end Go.Proofs.Ytlpeigeadjojnab
