/- Decimal forms, plain: what strconv.ParseInt reads of a decimal form; which text has a number; and the value of a text's digits. No conditions. -/
import Derived.Test.YtjaofiepmhgjiaaDoorDec
import Derived.Lib.ItoaMem
import Derived.Lib.ParseIntB
import Derived.Lib.ParseIntBCases
namespace Go.Proofs.YtjaofiepmhgjiaaDoor
set_option linter.unusedSimpArgs false
set_option linter.unusedVariables false

def isD (c : UInt8) : Prop := 48 ≤ c.toNat ∧ c.toNat ≤ 57
def dvF (a : Nat) (l : List UInt8) : Nat := l.foldl (fun a c => a * 10 + (c.toNat - 48)) a
theorem dvF_ge : ∀ (l : List UInt8) (a : Nat), a ≤ dvF a l
  | [], a => Nat.le_refl _
  | c :: r, a => by
    have := dvF_ge r (a * 10 + (c.toNat - 48))
    show a ≤ dvF (a * 10 + (c.toNat - 48)) r
    omega
theorem dvF_snoc (l : List UInt8) (c : UInt8) (a : Nat) : dvF a (l ++ [c]) = dvF a l * 10 + (c.toNat - 48) := by simp [dvF]
theorem dvF_lt' : ∀ (k : Nat) (l : List UInt8), (∀ c ∈ l, isD c) → l.length ≤ k → dvF 0 l < 10 ^ k
  | 0, l, h, hk => by
    have : l = [] := List.length_eq_zero_iff.1 (by omega)
    subst this
    show 0 < 10 ^ 0
    decide
  | k + 1, l, h, hk => by
    rcases List.eq_nil_or_concat l with rfl | ⟨r, c, rfl⟩
    · show 0 < 10 ^ (k + 1)
      exact Nat.pow_pos (by omega)
    · rw [List.concat_eq_append] at *
      have h1 := dvF_lt' k r (fun x hx => h x (by simp [hx])) (by simp at hk; omega)
      have h2 := h c (by simp)
      unfold isD at h2
      rw [dvF_snoc, Nat.pow_succ]
      omega
theorem dvF_lt (l : List UInt8) (h : ∀ c ∈ l, isD c) (k : Nat) (hk : l.length ≤ k) : dvF 0 l < 10 ^ k := dvF_lt' k l h hk

theorem dec_facts (u : Nat) : dvF 0 (Lib.decDigits u) = u ∧ (∀ c ∈ Lib.decDigits u, isD c) ∧ 1 ≤ (Lib.decDigits u).length := by
  induction u using Nat.strongRecOn with
  | _ u ih =>
    by_cases h : u < 10
    · have hb : (UInt8.ofNat (48 + u)).toNat = 48 + u := by simp; omega
      rw [Lib.decDigits, dif_pos h]
      refine ⟨?_, ?_, by simp⟩
      · show 0 * 10 + ((UInt8.ofNat (48 + u)).toNat - 48) = u
        omega
      · intro c hc
        rw [List.mem_singleton] at hc
        rw [hc]
        exact ⟨by omega, by omega⟩
    · have hb : (UInt8.ofNat (48 + u % 10)).toNat = 48 + u % 10 := by simp; omega
      obtain ⟨i1, i2, i3⟩ := ih (u / 10) (by omega)
      rw [Lib.decDigits, dif_neg h]
      refine ⟨?_, ?_, by simp⟩
      · rw [dvF_snoc, i1]
        omega
      · intro c hc
        rw [List.mem_append] at hc
        rcases hc with hc | hc
        · exact i2 c hc
        · rw [List.mem_singleton] at hc
          rw [hc]
          exact ⟨by omega, by omega⟩
theorem dec_len (u : Nat) (h : u ≤ 999999999999999999) : (Lib.decDigits u).length ≤ 18 := by
  have := dg_len u 18 (by omega)
  unfold dg at this
  by_cases h0 : u = 0
  · subst h0; rw [Lib.decDigits, dif_pos (by omega)]; simp
  · rwa [if_neg h0] at this

theorem parseUintM_ok : ∀ (l : List UInt8) (acc : Nat), (∀ c ∈ l, isD c) → dvF acc l ≤ 999999999999999999 → Lib.parseUintM (2 ^ 64 - 1) acc l = .ok (dvF acc l)
  | [], acc, _, _ => rfl
  | c :: r, acc, h, hu => by
    have hc := h c (by simp)
    have hge := dvF_ge r (acc * 10 + (c.toNat - 48))
    have e : dvF acc (c :: r) = dvF (acc * 10 + (c.toNat - 48)) r := rfl
    rw [e] at hu ⊢
    unfold isD at hc
    unfold Lib.parseUintM
    rw [if_pos hc, if_neg (by omega), if_neg (by omega)]
    exact parseUintM_ok r _ (fun x hx => h x (by simp [hx])) hu
theorem parse_digits (u : Nat) (h : u ≤ 999999999999999999) : Lib.parseUintB 64 (Lib.decDigits u) = .ok u := by
  obtain ⟨h1, h2, h3⟩ := dec_facts u
  unfold Lib.parseUintB
  rw [if_neg (by intro e; rw [e] at h3; simp at h3), parseUintM_ok _ 0 h2 (by omega), h1]
theorem parse_itoa (m : Int) (h1 : -999999999999999999 ≤ m) (h2 : m ≤ 999999999999999999) : Lib.parseIntB 64 (Lib.itoa m) = .ok m := by
  by_cases h : m < 0
  · obtain ⟨k, rfl⟩ : ∃ k : Nat, m = -(k : Int) := ⟨m.natAbs, by omega⟩
    rw [Lib.itoa_neg k (by omega), Lib.parseIntB_minus, parse_digits k (by omega)]
    simp only [Lib.signedC]
    rw [if_neg (by omega)]
  · obtain ⟨k, rfl⟩ : ∃ k : Nat, m = (k : Int) := ⟨m.natAbs, by omega⟩
    rw [Lib.itoa_nonneg k]
    obtain ⟨_, f2, f3⟩ := dec_facts k
    have hp := parse_digits k (by omega)
    cases hd : Lib.decDigits k with
    | nil => rw [hd] at f3; simp at f3
    | cons c r =>
      rw [hd] at hp f2
      have hc := f2 c (by simp)
      unfold isD at hc
      rw [Lib.parseIntB_plain 64 c r (by omega) (by omega), hp]
      simp only [Lib.signlessC]
      rw [if_neg (by omega)]

/-- s is the decimal form of n, a number of at most 18 digits -/
def Good (n : Int) (s : ByteArray) : Prop := -999999999999999999 ≤ n ∧ n ≤ 999999999999999999 ∧ decS n = s
/-- n, b is what ReadDecimal answers -/
def Ans (s : ByteArray) (n : Int) (b : Bool) : Prop := (b = true ∧ Good n s) ∨ (b = false ∧ n = 0 ∧ ∀ m, ¬ Good m s)
theorem Good.parse {m : Int} {s : ByteArray} (h : Good m s) : Lib.parseIntB 64 s.data.toList = .ok m := by
  obtain ⟨h1, h2, rfl⟩ := h
  have : (decS m).data.toList = Lib.itoa m := by simp [decS]
  rw [this]
  exact parse_itoa m h1 h2
theorem Good.unique {m n : Int} {s : ByteArray} (h : Good m s) (h' : Good n s) : m = n := by
  have := h.parse.symm.trans h'.parse
  injection this
theorem Ans.unique {s : ByteArray} {n n' : Int} {b b' : Bool} (h : Ans s n b) (h' : Ans s n' b') : n = n' ∧ b = b' := by
  rcases h with ⟨rfl, h⟩ | ⟨rfl, rfl, h⟩ <;> rcases h' with ⟨rfl, h'⟩ | ⟨rfl, rfl, h'⟩
  · exact ⟨h.unique h', rfl⟩
  · exact absurd h (h' n)
  · exact absurd h' (h n')
  · exact ⟨rfl, rfl⟩
theorem Ans.yes {s : ByteArray} {n : Int} (h : Good n s) : Ans s n true := .inl ⟨rfl, h⟩
theorem Ans.no {s : ByteArray} (h : ∀ m, ¬ Good m s) : Ans s 0 false := .inr ⟨rfl, rfl, h⟩

/-- the value of the first k digits -/
def dv (t : ByteArray) (k : Nat) : Nat := dvF 0 (t.data.toList.take k)
theorem dv_zero (t : ByteArray) : dv t 0 = 0 := rfl
theorem list_at (t : ByteArray) (k : Nat) (h : k < t.size) : t.data.toList[k]'(by simpa using h) = t[k]'h := by simp; rfl
theorem dv_succ (t : ByteArray) (k : Nat) (h : k < t.size) : dv t (k + 1) = dv t k * 10 + ((t[k]'h).toNat - 48) := by
  unfold dv
  rw [List.take_succ_eq_append_getElem (by simpa using h), dvF_snoc, list_at t k h]
theorem dv_all (t : ByteArray) : dv t t.size = dvF 0 t.data.toList := by
  unfold dv
  rw [List.take_of_length_le (by simp)]
theorem dv_lt (t : ByteArray) (k : Nat) (hk : k ≤ t.size) (h18 : k ≤ 18) (h : ∀ j (hj : j < t.size), j < k → isD (t[j]'hj)) : dv t k ≤ 999999999999999999 := by
  have := dvF_lt (t.data.toList.take k) (fun c hc => by
    obtain ⟨j, hj, rfl⟩ := List.getElem_of_mem hc
    have hjk : j < k := by simp at hj; omega
    have hjt : j < t.size := by omega
    rw [List.getElem_take, list_at t j hjt]
    exact h j hjt hjk) 18 (by simp; omega)
  unfold dv
  omega

/-- the facts of a text that is a number's decimal form, by its first byte -/
theorem Good.plain {m : Int} {s : ByteArray} (h : Good m s) (h0 : 0 < s.size) (hne : (s[0]'h0).toNat ≠ 45) :
    1 ≤ s.size ∧ s.size ≤ 18 ∧ (∀ j (hj : j < s.size), isD (s[j]'hj)) ∧ m = dv s s.size := by
  obtain ⟨h1, h2, rfl⟩ := h
  have hl : (decS m).data.toList = Lib.itoa m := by simp [decS]
  have hneg : ¬ m < 0 := by
    intro hm
    obtain ⟨k, rfl⟩ : ∃ k : Nat, m = -(k : Int) := ⟨m.natAbs, by omega⟩
    rw [Lib.itoa_neg k (by omega)] at hl
    apply hne
    rw [← list_at (decS (-(k : Int))) 0 h0]
    simp only [hl]
    rfl
  obtain ⟨k, rfl⟩ : ∃ k : Nat, m = (k : Int) := ⟨m.natAbs, by omega⟩
  rw [Lib.itoa_nonneg k] at hl
  obtain ⟨f1, f2, f3⟩ := dec_facts k
  have hsz : (decS (k : Int)).size = (Lib.decDigits k).length := by rw [← hl]; simp
  refine ⟨h0, by rw [hsz]; exact dec_len k (by omega), fun j hj => ?_, ?_⟩
  · apply f2
    rw [← hl, ← list_at _ j hj]
    exact List.getElem_mem _
  · rw [dv_all, hl, f1]
theorem drop_list (s : ByteArray) : (s.extract 1 s.size).data.toList = s.data.toList.drop 1 := by
  rw [ByteArray.data_extract, Array.toList_extract]
  simp only [List.extract_eq_take_drop]
  rw [List.take_of_length_le]
  simp
theorem Good.minus {m : Int} {s : ByteArray} (h : Good m s) (h0 : 0 < s.size) (he : (s[0]'h0).toNat = 45) :
    1 ≤ (s.extract 1 s.size).size ∧ (s.extract 1 s.size).size ≤ 18 ∧ (∀ j (hj : j < (s.extract 1 s.size).size), isD ((s.extract 1 s.size)[j]'hj)) ∧ m = -(dv (s.extract 1 s.size) (s.extract 1 s.size).size : Int) := by
  obtain ⟨h1, h2, rfl⟩ := h
  have hl : (decS m).data.toList = Lib.itoa m := by simp [decS]
  have hneg : m < 0 := by
    rcases Int.lt_or_le m 0 with hm | hm
    · exact hm
    · exfalso
      obtain ⟨k, rfl⟩ : ∃ k : Nat, m = (k : Int) := ⟨m.natAbs, by omega⟩
      rw [Lib.itoa_nonneg k] at hl
      obtain ⟨f1, f2, f3⟩ := dec_facts k
      have := f2 ((decS (k : Int))[0]'h0) (by rw [← hl, ← list_at _ 0 h0]; exact List.getElem_mem _)
      unfold isD at this
      omega
  obtain ⟨k, rfl⟩ : ∃ k : Nat, m = -(k : Int) := ⟨m.natAbs, by omega⟩
  rw [Lib.itoa_neg k (by omega)] at hl
  obtain ⟨f1, f2, f3⟩ := dec_facts k
  have hd := drop_list (decS (-(k : Int)))
  generalize (decS (-(k : Int))).extract 1 (decS (-(k : Int))).size = t at *
  rw [hl] at hd
  have hd : t.data.toList = Lib.decDigits k := hd
  have hsz : t.size = (Lib.decDigits k).length := by rw [← hd]; simp
  refine ⟨by omega, by rw [hsz]; exact dec_len k (by omega), fun j hj => ?_, ?_⟩
  · apply f2
    rw [← hd, ← list_at _ j hj]
    exact List.getElem_mem _
  · rw [dv_all, hd, f1]
theorem Good.some_size {m : Int} {s : ByteArray} (h : Good m s) : 0 < s.size := by
  obtain ⟨h1, h2, rfl⟩ := h
  have hl : (decS m).data.toList = Lib.itoa m := by simp [decS]
  have hsz : (decS m).size = (Lib.itoa m).length := by rw [← hl]; simp
  rw [hsz]
  unfold Lib.itoa
  split
  · simp
  · have := (dec_facts m.toNat).2.2; omega
end Go.Proofs.YtjaofiepmhgjiaaDoor
