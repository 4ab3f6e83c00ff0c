/- KindOfText, the model's and the program's: both answer the kind of a text. Conditions: texts of at most 2^20 bytes. -/
import Derived.Test.YtgjmhihomklooaaName
import Derived.Test.YtgjmhihomklooaaShelf
namespace Go.Proofs.Ytgjmhihomklooaa
open Go.RowKit
set_option linter.unusedSimpArgs false
set_option linter.unusedVariables false

/-- has the text a byte? -/
def hasB (s : ByteArray) (c : UInt8) : Bool := decide (0 ≤ Lib.indexByte s.data.toList c)
theorem hasB_at {s : ByteArray} {c : UInt8} (k : Nat) (hk : k < s.size) (h : byteAt s k = (c.toNat : Int)) : hasB s c = true := by
  have hge := Lib.indexByte_ge s.data.toList c
  refine decide_eq_true (Int.not_lt.1 fun hlt => ?_)
  refine Lib.indexByte_none (l := s.data.toList) (c := c) (by omega) k ?_
  have h1 := byteAt_is s k hk
  have e : (s[k]'hk) = c := UInt8.toNat_inj.1 (by omega)
  have hk2 : k < s.data.toList.length := by simpa using hk
  rw [List.getElem?_eq_getElem hk2]
  congr 1
theorem hasB_none {s : ByteArray} {c : UInt8} (h : ∀ k, k < s.size → byteAt s k ≠ (c.toNat : Int)) : hasB s c = false := by
  refine decide_eq_false fun h0 => ?_
  obtain ⟨o, ho⟩ : ∃ o : Nat, Lib.indexByte s.data.toList c = o := ⟨(Lib.indexByte s.data.toList c).toNat, by omega⟩
  have h1 := (Lib.indexByte_some ho).1
  obtain ⟨hk, h2⟩ := List.getElem?_eq_some_iff.1 h1
  have hk2 : o < s.size := by simpa using hk
  refine h o hk2 ?_
  rw [← byteAt_is s o hk2]
  congr 2

theorem l07Has_any (s : ByteArray) (c : UInt8) (w : World) (hs : s.size ≤ 1048576) :
    Calls Try.prog 97 #[.string s, .int .u8 (c.toNat : Int)] w fun e w' => e = .returned (.bool (hasB s c)) ∧ w' = w := by
  have HY := Lib.hid (fun k hk h => hasB_at (s := s) (c := c) k hk h)
  have HN := Lib.hid (fun h => hasB_none (s := s) (c := c) h)
  have hc := c.toNat_lt
  obtain ⟨d, hd⟩ : ∃ d : Int, d = (c.toNat : Int) := ⟨_, rfl⟩
  rw [← hd] at HY HN ⊢
  have hd0 : 0 ≤ d := by omega
  have hd1 : d ≤ 255 := by omega
  generalize hasB s c = r at *
  clear hd hc
  go_enter Try.func97, Try.ntmps97
  go_wp2
  go_loop [5] (fun i => ∃ k : Nat, k ≤ s.size ∧ i = .int .i64 k ∧ Hid (∀ j, j < k → byteAt s j ≠ d)) (fun i => s.size - (intOf i).toNat)
  case atStart => exact ⟨0, Nat.zero_le _, rfl, fun j hj => absurd hj (Nat.not_lt_zero _)⟩
  case round =>
    obtain ⟨k, hk, rfl, hall⟩ := hrel
    by_cases hlt : k < s.size
    · have HX := byteAt_is s k hlt
      have HBD := byteAt_bound s k
      have HYK := Lib.hid (HY.out k hlt)
      have HNX := Lib.hid (fun (h : byteAt s k ≠ d) => show ∀ j, j < k + 1 → byteAt s j ≠ d from fun j hj => by
        by_cases e : j = k
        · subst e; exact h
        · exact hall.out j (by omega))
      clear HY HN hall
      generalize byteAt s k = x at *
      by_cases he : x = d
      · have HR := Lib.hid (HYK.out he)
        subst he
        clear HYK HNX
        go_wp2
        go_ret
        exact ⟨by rw [HR.out]; rfl, rfl⟩
      · have HN2 := Lib.hid (HNX.out he)
        have he2 : (x == d) = false := by simpa using he
        clear HYK HNX
        go_wp2
        go_round
        case rel => exact ⟨k + 1, by omega, by go_num, HN2⟩
        case measure => simp [intOf]; omega
    · obtain rfl : k = s.size := by omega
      have HR := Lib.hid (HN.out hall.out)
      clear HY HN hall
      go_wp2
      go_ret
      exact ⟨by rw [HR.out]; rfl, rfl⟩

/-- the kind of a text -/
def kindB (s : ByteArray) : Int := if hasB s 60 then 4 else if hasB s 40 then 3 else if hasB s 91 then 2 else 1

theorem kindOfText_spec (s : ByteArray) (w : World) (hs : s.size ≤ 1048576) :
    Calls Try.prog 51 #[.string s] w fun e w' => e = .returned (.int .i64 (kindB s)) ∧ Below w.heap.size w w' := by
  have H1 := fun W => l07Has_any s 60 W hs
  have H2 := fun W => l07Has_any s 40 W hs
  have H3 := fun W => l07Has_any s 91 W hs
  unfold kindB
  simp only [show ((60 : UInt8).toNat : Int) = 60 from rfl, show ((40 : UInt8).toNat : Int) = 40 from rfl, show ((91 : UInt8).toNat : Int) = 91 from rfl] at H1 H2 H3
  generalize hasB s 60 = b1 at *
  generalize hasB s 40 = b2 at *
  generalize hasB s 91 = b3 at *
  cases b1 with
  | true =>
    go_enter Try.func51, Try.ntmps51
    go_wp2_with fail
    refine (H1 _).mono ?_
    rintro e w' ⟨rfl, rfl⟩
    go_wp2
    go_ret
    exact ⟨rfl, Below.refl _ _⟩
  | false =>
    cases b2 with
    | true =>
      go_enter Try.func51, Try.ntmps51
      go_wp2_with fail
      refine (H1 _).mono ?_
      rintro e w' ⟨rfl, rfl⟩
      go_wp2_with fail
      refine (H2 _).mono ?_
      rintro e w' ⟨rfl, rfl⟩
      go_wp2
      go_ret
      exact ⟨rfl, Below.refl _ _⟩
    | false =>
      cases b3 with
      | true =>
        go_enter Try.func51, Try.ntmps51
        go_wp2_with fail
        refine (H1 _).mono ?_
        rintro e w' ⟨rfl, rfl⟩
        go_wp2_with fail
        refine (H2 _).mono ?_
        rintro e w' ⟨rfl, rfl⟩
        go_wp2_with fail
        refine (H3 _).mono ?_
        rintro e w' ⟨rfl, rfl⟩
        go_wp2
        go_ret
        exact ⟨rfl, Below.refl _ _⟩
      | false =>
        go_enter Try.func51, Try.ntmps51
        go_wp2_with fail
        refine (H1 _).mono ?_
        rintro e w' ⟨rfl, rfl⟩
        go_wp2_with fail
        refine (H2 _).mono ?_
        rintro e w' ⟨rfl, rfl⟩
        go_wp2_with fail
        refine (H3 _).mono ?_
        rintro e w' ⟨rfl, rfl⟩
        go_wp2
        go_ret
        exact ⟨rfl, Below.refl _ _⟩

theorem contains_any (s : ByteArray) (c : UInt8) (w : World) :
    Calls Try.prog 98 #[.string s, .string ⟨#[c]⟩] w fun e w' => e = .returned (.bool (hasB s c)) ∧ w' = w := Any.strings_Contains_one Try.lays144 s c w
theorem kindOfText_impl (s : ByteArray) (w : World) (hs : s.size ≤ 1048576) :
    Calls Try.prog 52 #[.string s] w fun e w' => e = .returned (.int .i64 (kindB s)) ∧ Below w.heap.size w w' := by
  have H1 := fun W => contains_any s 60 W
  have H2 := fun W => contains_any s 40 W
  have H3 := fun W => contains_any s 91 W
  unfold kindB
  generalize hasB s 60 = b1 at *
  generalize hasB s 40 = b2 at *
  generalize hasB s 91 = b3 at *
  cases b1 with
  | true =>
    go_enter Try.func52, Try.ntmps52
    go_wp2_with fail
    refine (H1 _).mono ?_
    rintro e w' ⟨rfl, rfl⟩
    go_wp2
    go_ret
    exact ⟨rfl, Below.refl _ _⟩
  | false =>
    cases b2 with
    | true =>
      go_enter Try.func52, Try.ntmps52
      go_wp2_with fail
      refine (H1 _).mono ?_
      rintro e w' ⟨rfl, rfl⟩
      go_wp2_with fail
      refine (H2 _).mono ?_
      rintro e w' ⟨rfl, rfl⟩
      go_wp2
      go_ret
      exact ⟨rfl, Below.refl _ _⟩
    | false =>
      cases b3 with
      | true =>
        go_enter Try.func52, Try.ntmps52
        go_wp2_with fail
        refine (H1 _).mono ?_
        rintro e w' ⟨rfl, rfl⟩
        go_wp2_with fail
        refine (H2 _).mono ?_
        rintro e w' ⟨rfl, rfl⟩
        go_wp2_with fail
        refine (H3 _).mono ?_
        rintro e w' ⟨rfl, rfl⟩
        go_wp2
        go_ret
        exact ⟨rfl, Below.refl _ _⟩
      | false =>
        go_enter Try.func52, Try.ntmps52
        go_wp2_with fail
        refine (H1 _).mono ?_
        rintro e w' ⟨rfl, rfl⟩
        go_wp2_with fail
        refine (H2 _).mono ?_
        rintro e w' ⟨rfl, rfl⟩
        go_wp2_with fail
        refine (H3 _).mono ?_
        rintro e w' ⟨rfl, rfl⟩
        go_wp2
        go_ret
        exact ⟨rfl, Below.refl _ _⟩

end Go.Proofs.Ytgjmhihomklooaa
