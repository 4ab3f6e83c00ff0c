/- SplitWords, plain: the pieces of a text between its blanks, empty ones left out, byte by byte; and that strings.FieldsFunc's answer, which goes rune by rune, is the same. No conditions. -/
import Derived.Lib.FieldsP
import Derived.Lib.SpaceUEq
import Derived.Lib.DecodeN
import Derived.Laws.RangeString
import Derived.Laws.RangeAny
namespace Go.Proofs.Ytjaofiepmhgjiaa
set_option linter.unusedSimpArgs false
set_option linter.unusedVariables false

/-- all the pieces between blanks, from byte i on, with the open piece's beginning -/
def cutsF (s : ByteArray) : Nat → Nat → Nat → List (Nat × Nat) → List (Nat × Nat)
  | 0, _, b, acc => acc ++ [(b, s.size)]
  | f + 1, i, b, acc =>
    if i < s.size then
      (if s.get! i = 32 then cutsF s f (i + 1) (i + 1) (acc ++ [(b, i)]) else cutsF s f (i + 1) b acc)
    else acc ++ [(b, s.size)]
def full (x : Nat × Nat) : Bool := decide (x.1 < x.2)
theorem cutsF_end (s : ByteArray) (f i b : Nat) (acc : List (Nat × Nat)) (h : ¬ i < s.size) : cutsF s f i b acc = acc ++ [(b, s.size)] := by
  cases f with
  | zero => rfl
  | succ f => rw [cutsF, if_neg h]
theorem cutsF_blank (s : ByteArray) (f i b : Nat) (acc : List (Nat × Nat)) (h : i < s.size) (h1 : s.get! i = 32) : cutsF s (f + 1) i b acc = cutsF s f (i + 1) (i + 1) (acc ++ [(b, i)]) := by rw [cutsF, if_pos h, if_pos h1]
theorem cutsF_other (s : ByteArray) (f i b : Nat) (acc : List (Nat × Nat)) (h : i < s.size) (h1 : s.get! i ≠ 32) : cutsF s (f + 1) i b acc = cutsF s f (i + 1) b acc := by rw [cutsF, if_pos h, if_neg h1]
/-- over bytes that are no blanks -/
theorem cutsF_skip (s : ByteArray) : ∀ (k f i b : Nat) (acc : List (Nat × Nat)), i + k ≤ s.size → (∀ j, j < k → s.get! (i + j) ≠ 32) → cutsF s (f + k) i b acc = cutsF s f (i + k) b acc
  | 0, f, i, b, acc, _, _ => rfl
  | k + 1, f, i, b, acc, h, hn => by
    rw [show f + (k + 1) = (f + k) + 1 by omega, cutsF_other s (f + k) i b acc (by omega) (by simpa using hn 0 (by omega)), cutsF_skip s k f (i + 1) b acc (by omega) (fun j hj => by have := hn (j + 1) (by omega); rwa [show i + (j + 1) = i + 1 + j by omega] at this), show i + 1 + k = i + (k + 1) by omega]

def blankR (r : Nat) : Bool := r == 32

theorem get_getElem (s : ByteArray) (i : Nat) (h : i < s.size) : s.get! i = s[i]'h := by
  show s.data[i]! = s.data[i]
  simp [getElem!_pos, h]

/-- one rune: its width, and which of its bytes are blanks -/
theorem rune_at (s : ByteArray) (i : Nat) (h : i < s.size) :
    (blankR (Go.Utf8.decode s i).1 = true ∧ (Go.Utf8.decode s i).2 = 1 ∧ s.get! i = 32) ∨
    (blankR (Go.Utf8.decode s i).1 = false ∧ 1 ≤ (Go.Utf8.decode s i).2 ∧ i + (Go.Utf8.decode s i).2 ≤ s.size ∧ ∀ j, j < (Go.Utf8.decode s i).2 → s.get! (i + j) ≠ 32) := by
  by_cases ha : (s[i]'h).toNat < 128
  · rw [decode_ascii s i h ha]
    by_cases h32 : s[i]'h = 32
    · left
      rw [get_getElem s i h, h32]
      exact ⟨rfl, rfl, rfl⟩
    · right
      refine ⟨?_, Nat.le_refl _, h, fun j hj => ?_⟩
      · unfold blankR
        simp only [beq_eq_false_iff_ne]
        intro e
        exact h32 (UInt8.toNat_inj.1 e)
      · obtain rfl : j = 0 := by simp only at hj; omega
        rw [Nat.add_zero, get_getElem s i h]
        exact h32
  · right
    have hh := decode_high s i h (by omega)
    have hc := Go.Lib.decodeN_conts (s.size - i) (s.get! i).toNat (s.get! (i + 1)).toNat (s.get! (i + 2)).toNat (s.get! (i + 3)).toNat
    rw [← Go.Lib.decode_at] at hc
    obtain ⟨c2, c3, c4, c5⟩ := hc
    have g0 := get_getElem s i h
    have n32 : ∀ x : UInt8, 128 ≤ x.toNat → x ≠ 32 := fun x hx e => by subst e; simp at hx
    refine ⟨?_, hh.2, by omega, fun j hj => ?_⟩
    · unfold blankR
      simp only [beq_eq_false_iff_ne]
      omega
    · apply n32
      match j, hj with
      | 0, _ => rw [Nat.add_zero, g0]; omega
      | 1, hj => have := (c2 (by omega)).1; omega
      | 2, hj => have := (c3 (by omega)).1; omega
      | 3, hj => have := (c4 (by omega)).1; omega
      | j + 4, hj => omega

/-- the open piece of the walk by runes -/
def openB (st : Option Nat) (pos : Nat) : Nat := st.getD pos

theorem spans_cuts (s : ByteArray) : ∀ (f pos : Nat) (st : Option Nat) (acc all : List (Nat × Nat)) (n : Nat), s.size - pos ≤ f → s.size - pos ≤ n → pos ≤ s.size → (∀ a, st = some a → a < pos) → acc = all.filter full →
    Go.Lib.closeSpans s (Go.Lib.spansFromP blankR s f pos st acc) = (cutsF s n pos (openB st pos) all).filter full := by
  have fin : ∀ (f n pos : Nat) (st : Option Nat) (acc all : List (Nat × Nat)), ¬ pos < s.size → pos ≤ s.size → (∀ a, st = some a → a < pos) → acc = all.filter full →
      Go.Lib.closeSpans s (Go.Lib.spansFromP blankR s f pos st acc) = (cutsF s n pos (openB st pos) all).filter full := by
    intro f n pos st acc all hp hle hst hacc
    rw [Go.Lib.spansFromP_end blankR s f pos st acc hp, cutsF_end s n pos _ all hp, hacc]
    obtain rfl : pos = s.size := by omega
    cases st with
    | none => simp [Go.Lib.closeSpans, openB, full]
    | some a =>
      have := hst a rfl
      simp [Go.Lib.closeSpans, openB, full, this]
  intro f
  induction f with
  | zero => intro pos st acc all n hf hn hle hst hacc; exact fin 0 n pos st acc all (by omega) hle hst hacc
  | succ f ih =>
    intro pos st acc all n hf hn hle hst hacc
    by_cases hp : pos < s.size
    · unfold Go.Lib.spansFromP
      rw [if_pos hp]
      rcases rune_at s pos hp with ⟨e1, e2, e3⟩ | ⟨e1, e2, e3, e4⟩
      · rw [if_pos e1, e2]
        obtain ⟨n', rfl⟩ : ∃ n', n = n' + 1 := ⟨n - 1, by omega⟩
        rw [cutsF_blank s n' pos _ all hp e3]
        cases st with
        | none =>
          have := ih (pos + 1) none acc (all ++ [(pos, pos)]) n' (by omega) (by omega) (by omega) (by simp) (by rw [hacc]; simp [full])
          exact this
        | some a =>
          have ha := hst a rfl
          have := ih (pos + 1) none (acc ++ [(a, pos)]) (all ++ [(a, pos)]) n' (by omega) (by omega) (by omega) (by simp) (by rw [hacc]; simp [full, ha])
          exact this
      · rw [if_neg (by rw [e1]; decide)]
        generalize (Go.Utf8.decode s pos).2 = k at *
        obtain ⟨n', rfl⟩ : ∃ n', n = n' + k := ⟨n - k, by omega⟩
        rw [cutsF_skip s k n' pos _ all e3 e4]
        cases st with
        | none =>
          exact ih (pos + k) (some pos) acc all n' (by omega) (by omega) (by omega) (by simp; omega) hacc
        | some a =>
          have ha := hst a rfl
          exact ih (pos + k) (some a) acc all n' (by omega) (by omega) (by omega) (by simp; omega) hacc
    · exact fin (f + 1) n pos st acc all hp hle hst hacc

/-- all pieces, and the words -/
def cuts (s : ByteArray) : List (Nat × Nat) := cutsF s s.size 0 0 []
def piece (s : ByteArray) (x : Nat × Nat) : ByteArray := s.extract x.1 x.2
def wordsL (s : ByteArray) : List ByteArray := ((cuts s).filter full).map (piece s)
theorem words_fields (s : ByteArray) : Go.Lib.goFieldsP blankR s = wordsL s := by
  unfold Go.Lib.goFieldsP Go.Lib.spansOfP wordsL cuts
  rw [spans_cuts s s.size 0 none [] [] s.size (by omega) (by omega) (by omega) (by simp) rfl]
  rfl
end Go.Proofs.Ytjaofiepmhgjiaa
