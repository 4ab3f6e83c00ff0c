/- PatternText, the model's and the program's: both answer the text of a pattern. No conditions. -/
import Derived.Test.YtjhijmaolnngmaaImpl02
import Derived.Test.YtjhijmaolnngmaaBuilder
namespace Go.Proofs.Ytjhijmaolnngmaa
open Go.RowKit
set_option linter.unusedSimpArgs false
set_option linter.unusedVariables false

/-- the character of a throw -/
def digB (x : Int) : UInt8 := if x < 10 then UInt8.ofNat (48 + x.toNat) else UInt8.ofNat (87 + x.toNat)
/-- the text of a list of throws, as bytes -/
def textL (p : List Int) : List UInt8 := p.map digB
theorem textL_take (p : List Int) (k : Nat) (hk : k < p.length) : textL (p.take k) ++ [digB (p.getD k 0)] = textL (p.take (k + 1)) := by
  rw [textL, textL, List.take_succ_eq_append_getElem hk, List.map_append]
  congr 1
  simp [hk]
theorem textL_len (p : List Int) : (textL p).length = p.length := by simp [textL]
/-- the text, as a string -/
def bytesOf (l : List UInt8) : ByteArray := ⟨l.toArray⟩
theorem bytesOf_size (l : List UInt8) : (bytesOf l).size = l.length := rfl
theorem bytesOf_snoc (l : List UInt8) (c : UInt8) : bytesOf l ++ bytesOf [c] = bytesOf (l ++ [c]) := by
  apply ByteArray.ext
  simp [bytesOf]
/-- what PatternText answers -/
def textA (p : List Int) : ByteArray := if okPat p then bytesOf (textL p) else bytesOf []
theorem textA_true {p : List Int} (h : okPat p = true) : textA p = bytesOf (textL p) := by rw [textA, if_pos h]
theorem textA_false {p : List Int} (h : okPat p = false) : textA p = bytesOf [] := by rw [textA, if_neg (by simp [h])]

def digits16 : ByteArray := ⟨#[48, 49, 50, 51, 52, 53, 54, 55, 56, 57, 97, 98, 99, 100, 101, 102]⟩
theorem slice_digit (x : Int) (h0 : 0 ≤ x) (h1 : x ≤ 15) (w : World) :
    (Instr.slice 9 (.string ⟨#[48, 49, 50, 51, 52, 53, 54, 55, 56, 57, 97, 98, 99, 100, 101, 102]⟩) (some (.int .i64 x)) (some (.int .i64 (x + 1))) none).run Try.prog w = .ok (.string (bytesOf [digB x])) w := by
  rw [run_slice_string (h := Try.underlying9)]
  · congr 2
    have : x = 0 ∨ x = 1 ∨ x = 2 ∨ x = 3 ∨ x = 4 ∨ x = 5 ∨ x = 6 ∨ x = 7 ∨ x = 8 ∨ x = 9 ∨ x = 10 ∨ x = 11 ∨ x = 12 ∨ x = 13 ∨ x = 14 ∨ x = 15 := by omega
    rcases this with rfl | rfl | rfl | rfl | rfl | rfl | rfl | rfl | rfl | rfl | rfl | rfl | rfl | rfl | rfl | rfl <;> rfl
  all_goals first | omega | (simp [ByteArray.size]; omega)
theorem concat_run (l : List UInt8) (c : UInt8) (h : l.length ≤ 1000) (w : World) :
    (Op.stringOp .add (bytesOf l) (bytesOf [c])).run Try.prog w = .ok (.string (bytesOf (l ++ [c]))) w := by
  rw [run_string_add_sum w _ _ (by rw [bytesOf_size, bytesOf_size]; simp; omega), bytesOf_snoc]

theorem textL_facts (p : List Int) (h : p.length ≤ 12) : textL (p.take 0) = [] ∧ (∀ i, i < p.length → textL (p.take i) ++ [digB (p.getD i 0)] = textL (p.take (i + 1))) ∧ (∀ i, i ≤ p.length → (textL (p.take i)).length ≤ 12) ∧ textL (p.take p.length) = textL p := by
  refine ⟨rfl, fun i hi => textL_take p i hi, fun i hi => by rw [textL_len]; simp; omega, by rw [List.take_length]⟩

set_option maxRecDepth 100000 in
theorem index_digit (x : Int) (h0 : 0 ≤ x) (h1 : x ≤ 15) (w : World) :
    (Instr.index 9 (.string ⟨#[48, 49, 50, 51, 52, 53, 54, 55, 56, 57, 97, 98, 99, 100, 101, 102]⟩) (.int .i64 x)).run Try.prog w = .ok (.int .u8 (digB x).toNat) w := by
  have : x = 0 ∨ x = 1 ∨ x = 2 ∨ x = 3 ∨ x = 4 ∨ x = 5 ∨ x = 6 ∨ x = 7 ∨ x = 8 ∨ x = 9 ∨ x = 10 ∨ x = 11 ∨ x = 12 ∨ x = 13 ∨ x = 14 ∨ x = 15 := by omega
  rcases this with rfl | rfl | rfl | rfl | rfl | rfl | rfl | rfl | rfl | rfl | rfl | rfl | rfl | rfl | rfl | rfl <;> (first | rfl | (show Sem.run _ _ _ = _; kernel_rfl))

theorem patternText_core (g cap n B : Nat) (p : List Int) (f : Nat → Int) (T : Nat → List UInt8) (w : World) (h : Ints w B (.slice (some ⟨g, 0, none⟩) n cap) p) (hok : okPat p = true) (hn1 : 1 ≤ n) (hn2 : n ≤ 12) (hg : g < w.heap.size) (hf : ∀ i, i < n → 0 ≤ f i ∧ f i ≤ 15)
    (hT0 : T 0 = []) (hT1 : ∀ i, i < n → T i ++ [digB (f i)] = T (i + 1)) (hTl : ∀ i, i ≤ n → (T i).length ≤ 12) (hTn : T n ≠ [])
    (hc : ∀ i, i < n → w.cell? ⟨g, i, none⟩ = some (.int .i64 (f i))) :
    Calls Try.prog 51 #[.slice (some ⟨g, 0, none⟩) n cap] w fun e w' => e = .returned (.string (bytesOf (T n))) ∧ Below w.heap.size w w' := by
  have HT0 := Lib.hid hT0
  have HT1 := Lib.hid hT1
  have HTl := Lib.hid hTl
  have HTn := Lib.hid hTn
  clear hT0 hT1 hTl hTn
  go_enter Try.func51, Try.ntmps51
  go_wp2_with fail
  refine (validPattern_impl _ B p _ h).mono ?_
  rintro e w1 ⟨rfl, b1⟩
  rw [hok]
  clear h hok
  have hg1 : g < w1.heap.size := Nat.lt_of_lt_of_le hg b1.size
  have hc1 : ∀ i, i < n → w1.cell? ⟨g, i, none⟩ = some (.int .i64 (f i)) := fun i hi => (b1.cell (p := ⟨g, i, none⟩) hg).trans (hc i hi)
  have hB0 : Bld (w1.alloc (.cells #[.pointer none, .slice none 0 0] 102)) w1.heap.size w1.heap.size (T 0) := by rw [HT0.out]; exact Bld.fresh w1
  have hb0 : Below w1.heap.size w1 (w1.alloc (.cells #[.pointer none, .slice none 0 0] 102)) := (Below.refl _ _).alloc (Nat.le_refl _) _
  clear hc hg
  go_wp2
  go_loopw [5, 11] (fun _ i wr => ∃ k : Nat, k ≤ n ∧ i = .int .i64 k ∧ Bld wr w1.heap.size w1.heap.size (T k) ∧ Below w1.heap.size w1 wr) (fun _ i _ => n - (intOf i).toNat)
  case atStart => exact ⟨0, Nat.zero_le _, rfl, hB0, hb0⟩
  case round =>
    obtain ⟨k, hk, rfl, hB, hb⟩ := hrel
    clear hB0 hb0
    by_cases hlt : k < n
    · have c1 := (hb.cell (p := ⟨g, k, none⟩) hg1).trans (hc1 k hlt)
      obtain ⟨f1, f2⟩ := hf k hlt
      have HH := Lib.hid (HT1.out k hlt)
      have hl := HTl.out k hk
      have hix := fun wx => index_digit (f k) f1 f2 wx
      have hsz := hb.size
      clear hc1 hf
      go_wp2_with (go_at_call 91; refine (writeByte_any _ _ (T k) (digB (f k)) _ _ hB rfl (by omega) hsz).mono ?_; rintro e w2 ⟨rfl, hB2, hb2⟩; refine Hid.out ?_)
      rw [HH.out] at hB2
      have hb3 := hb.trans hb2
      refine Lib.hid ?_
      go_wp2
      go_roundw
      case rel => exact ⟨k + 1, by omega, by go_num, hB2, hb3⟩
      case measure => simp [intOf]; omega
    · obtain rfl : k = n := by omega
      clear hc1 hf
      have HC := builderString_some _ _ (T k) wr hB HTn.out
      go_wp2_with (go_at_call 92; refine HC.mono ?_; rintro e w2 ⟨rfl, hb2⟩; refine Hid.out ?_)
      have hb3 := b1.trans ((hb.trans hb2).mono b1.size)
      refine Lib.hid ?_
      go_wp2
      go_ret
      exact ⟨rfl, hb3⟩

theorem patternText_impl (v : Value) (B : Nat) (p : List Int) (w : World) (h : Ints w B v p) :
    Calls Try.prog 51 #[v] w fun e w' => e = .returned (.string (textA p)) ∧ Below w.heap.size w w' := by
  cases hok : okPat p with
  | false =>
    rw [textA_false hok]
    go_enter Try.func51, Try.ntmps51
    go_wp2_with fail
    refine (validPattern_impl v B p _ h).mono ?_
    rintro e w' ⟨rfl, hb⟩
    rw [hok]
    go_wp2
    go_ret
    exact ⟨rfl, hb⟩
  | true =>
    rw [textA_true hok]
    obtain ⟨h1, h2⟩ := okPat_len hok
    rcases h.shape with ⟨rfl, rfl⟩ | ⟨g, cap, rfl, _, hg, _⟩
    · simp at h1
    · obtain ⟨t0, t1, t2, t3⟩ := textL_facts p h2
      have := patternText_core g cap p.length B p (fun i => p.getD i 0) (fun k => textL (p.take k)) w h hok h1 h2 hg (fun i hi => okPat_at hok i hi) t0 t1 t2 (by intro e; have := congrArg List.length e; rw [textL_len] at this; simp at this; subst this; simp at h1) (fun i hi => h.cell i hi)
      rwa [t3] at this
end Go.Proofs.Ytjhijmaolnngmaa
