/- The source's methods among and text, and the model's l02Bent: they answer something, and write the source alone. Conditions: the source has read at most a million bytes. -/
import Derived.Test.YtgjmhihomklooaaDrawB
import Derived.Test.YtgjmhihomklooaaSees
namespace Go.Proofs.Ytgjmhihomklooaa
open Go.RowKit
set_option linter.unusedSimpArgs false
set_option linter.unusedVariables false

theorem among_any (a : Option Addr) (len cap b k B : Nat) (v : Value) (xs : List Int) (zs : List Int) (w : World) (hs : Src w b k (.slice a len cap)) (hr : IsRow .u8 w a len cap zs) (hlen : len ≤ 1000000000) (hk : k ≤ 1000000000) (hv : Ints w B v xs) (hB : b < B) (h1 : 1 ≤ xs.length) (h2 : xs.length ≤ 200) :
    Calls Try.prog 112 #[.pointer (some ⟨b, 0, none⟩), v] w fun e w' => ∃ x, e = .returned (.int .i64 x) ∧ Src w' b (k + 1) (.slice a len cap) ∧ w.grownBy w' (some b) := by
  obtain ⟨g, c, rfl, hBg, hg, hc, hm⟩ := hv.shape2 h1
  have HP := pick_any a len cap b k xs.length zs w hs hr hlen hk (by omega)
  have HV := Lib.hid hv
  obtain ⟨n, hn⟩ : ∃ n, n = xs.length := ⟨_, rfl⟩
  rw [← hn] at HP h1 h2 hc ⊢
  have HN := Lib.hid hn
  clear hn hv
  go_enter Try.func112, Try.ntmps112
  go_wp2_with fail
  refine HP.mono ?_
  rintro e w1 ⟨x, rfl, hx, s1, g1⟩
  obtain ⟨j, rfl⟩ : ∃ j : Nat, x = j := ⟨x.toNat, by omega⟩
  have hj : j < n := by omega
  have hv1 := HV.out.keepb g1 hB
  have hcell := hv1.cell j (by have := HN.out; omega)
  clear HP HV hv1 hx
  generalize xs.getD j 0 = y at *
  go_wp2
  go_ret
  exact ⟨_, rfl, s1, g1⟩

/-- a string that is not long -/
def shortStr : Value → Bool
  | .string s => decide (s.size ≤ 100)
  | _ => false

theorem text_any (a : Option Addr) (len cap b k g n : Nat) (cs : Array Value) (T : TypeId) (zs : List Int) (w : World) (hs : Src w b k (.slice a len cap)) (hr : IsRow .u8 w a len cap zs) (hlen : len ≤ 1000000000) (hk : k ≤ 1000000000) (hg : w.heap[g]? = some (.cells cs T)) (hgb : g ≠ b) (hn : cs.size = n) (hall : cs.all shortStr = true) (h1 : 1 ≤ n) (h2 : n ≤ 200) :
    Calls Try.prog 76 #[.pointer (some ⟨b, 0, none⟩), .slice (some ⟨g, 0, none⟩) n n] w fun e w' => ∃ s : ByteArray, e = .returned (.string s) ∧ s.size ≤ 100 ∧ Src w' b (k + 1) (.slice a len cap) ∧ w.grownBy w' (some b) := by
  have HP := pick_any a len cap b k n zs w hs hr hlen hk (by omega)
  have hgs : g < w.heap.size := (Array.getElem?_eq_some_iff.1 hg).1
  have HC : Hid (∀ w', w.grownBy w' (some b) → ∀ j, j < n → ∃ s : ByteArray, w'.cell? ⟨g, j, none⟩ = some (.string s) ∧ s.size ≤ 100) := by
    intro w' hg' j hj
    have hb := (hg'.block g hgs (by intro e; cases e; exact hgb rfl)).trans hg
    have hcell : w'.cell? ⟨g, j, none⟩ = cs[j]? := by simp [World.cell?, hb]
    have hj' : j < cs.size := by omega
    have hsh := Array.all_eq_true.1 hall j hj'
    rw [hcell, Array.getElem?_eq_getElem hj']
    cases hv : cs[j] with
    | string s => rw [hv] at hsh; exact ⟨s, rfl, by simpa [shortStr] using hsh⟩
    | _ => rw [hv] at hsh; simp [shortStr] at hsh
  clear hg hall hn
  go_enter Try.func76, Try.ntmps76
  go_wp2_with fail
  refine HP.mono ?_
  rintro e w1 ⟨x, rfl, hx, s1, g1⟩
  obtain ⟨j, rfl⟩ : ∃ j : Nat, x = j := ⟨x.toNat, by omega⟩
  have hj : j < n := by omega
  obtain ⟨s, hcell, hss⟩ := HC.out w1 g1 j hj
  clear HP HC hx
  go_wp2
  go_ret
  exact ⟨_, rfl, hss, s1, g1⟩

/-- the length of a slice -/
def lenV : Value → Nat
  | .slice _ n _ => n
  | _ => 0

end Go.Proofs.Ytgjmhihomklooaa
