/- Decimal, the model's: l01Dec answers the decimal form of a number. No conditions but that the number is one of 64 bits. -/
import Derived.Test.YtjaofiepmhgjiaaDoorRows
import Derived.WalkKit
import Derived.ProofKit
import Derived.OpenShut
import Derived.ShutString
import Derived.ChangeOld
import Derived.Below
import Derived.Lib.Hide
import Derived.Outline
import Derived.WalkSpells
import Derived.WalkSmall
import Derived.WalkLawsBesides
import Derived.Lib.ItoaNum
import Derived.Lib.Builder
import Derived.Lib.Strings
import Derived.Laws.IdiomStrings
namespace Go.Proofs.YtjaofiepmhgjiaaDoor
open Go.RowKit
set_option linter.unusedSimpArgs false
set_option linter.unusedVariables false

theorem Tryd.info8 : (Tryd.prog.info? 5).map (fun i => (i.zero, i.size, i.bytes)) = some (some (.int .u8 0), 1, 1) := by kernel_rfl

/-- the slice value v holds the bytes l, in a row of its own from block B on -/
def Bys (w : World) (B : Nat) (v : Value) (l : List UInt8) : Prop := w.ownsRow B 5 1 v l.length (Lib.byteCells l)

theorem append_front (w0 : World) {ops : Array Oper} {rest : List Oper} {o : Oper} {a : Act} {Q : Exit → Act → World → Prop} (hgd : o.guard = none) (s x : Operand)
    (ho : o.op = .call { callee := .builtin .append, args := #[s, x], argTypes := #[33, 33] }) (B g cap : Nat) (l : List UInt8) (c : UInt8) (y : Int) (hy : y = (c.toNat : Int))
    (hs : a.eval s = .slice (some ⟨w0.heap.size, 0, none⟩) 1 1) (hx : a.eval x = .slice (some ⟨g, 0, none⟩) l.length cap) (h : Bys w0 B (.slice (some ⟨g, 0, none⟩) l.length cap) l) (hlen : l.length ≤ 1000) (hB : B ≤ w0.heap.size)
    (hK : ∀ g' cap' w', Bys w' B (.slice (some ⟨g', 0, none⟩) (c :: l).length cap') (c :: l) → Below w0.heap.size w0 w' → wpList Tryd.prog ops Q rest (a.put o.dst (.slice (some ⟨g', 0, none⟩) (c :: l).length cap')) w') :
    wpList Tryd.prog ops Q (o :: rest) a (w0.alloc (.cells #[.int .u8 y] 5)) := by
  obtain ⟨i0, hi, hz0, hz1, hz2⟩ := info_parts Tryd.info8
  have hsrc := World.ownsRow.cells (World.ownsRow.alloc h (.cells #[.int .u8 y] 5)) (g := g) rfl
  have hbl : (Lib.byteCells l).length = l.length := Lib.byteCells_length l
  refine wpList_append_own (w0.alloc (.cells #[.int .u8 y] 5)) hgd s x 33 ho B 5 i0 (.int .u8 0) 1 1 Tryd.underlying33 hi hz0 hz1 hz2 rfl (by decide) _ 1 [.int .u8 y] hs
    (World.ownsRow_lit w0 #[.int .u8 y] 1 hB (by simp [maxLen]) rfl) ⟨g, 0, none⟩ l.length cap (Lib.byteCells l) hx (by omega) hsrc (by intro u hu; simp only [Lib.byteCells, List.mem_map] at hu; obtain ⟨c, _, rfl⟩ := hu; rfl) (by unfold maxLen; omega) (by omega) (by simp; omega) ?_
  intro v' w' h1 h2 _
  have hform : ∃ g' cap', v' = .slice (some ⟨g', 0, none⟩) (1 + l.length) cap' := by
    rcases h1.2 with ⟨_, h0⟩ | ⟨g', cap', cur, hv, _⟩
    · omega
    · exact ⟨g', cap', hv⟩
  obtain ⟨g', cap', rfl⟩ := hform
  have e1 : 1 + l.length = (c :: l).length := by simp; omega
  rw [e1] at h1 ⊢
  refine hK g' cap' w' ?_ ⟨h2.os, h2.tape, h2.output, by have := h2.size; simp at this; omega, fun k hk => ?_⟩
  · unfold Bys
    have e2 : [Value.int .u8 y] ++ Lib.byteCells l = Lib.byteCells (c :: l) := by rw [hy]; rfl
    rwa [e2] at h1
  · rw [h2.block k (by simp; omega) (by simp [Value.ownBlock]; omega)]
    exact Below.heap_alloc _ _ _ hk

theorem Bys.below {w w' : World} {B : Nat} {v : Value} {l : List UInt8} (h : Bys w B v l) (hb : Below w.heap.size w w') : Bys w' B v l := by
  refine ⟨h.1, ?_⟩
  rcases h.2 with h2 | ⟨g, cap, cur, rfl, hbg, hg, rest⟩
  · exact .inl h2
  · exact .inr ⟨g, cap, cur, rfl, hbg, by rw [hb.block g (Array.getElem?_eq_some_iff.1 hg).1]; exact hg, rest⟩

/-- the digits of a number, none for 0 -/
def dg (u : Nat) : List UInt8 := if u = 0 then [] else Lib.decDigits u
theorem dg_zero : dg 0 = [] := rfl
theorem dg_step {u : Nat} (h : u ≠ 0) (l : List UInt8) : dg (u / 10) ++ (UInt8.ofNat (48 + u % 10) :: l) = dg u ++ l := by
  unfold dg
  rw [if_neg h]
  by_cases h10 : u < 10
  · rw [if_pos (by omega), show Lib.decDigits u = [UInt8.ofNat (48 + u)] from by rw [Lib.decDigits, dif_pos h10], show u % 10 = u from by omega]; rfl
  · rw [if_neg (by omega), show Lib.decDigits u = Lib.decDigits (u / 10) ++ [UInt8.ofNat (48 + u % 10)] from by rw [Lib.decDigits, dif_neg h10]]; simp
theorem dg_len (u : Nat) (k : Nat) (h : u < 10 ^ k) : (dg u).length ≤ k := by
  induction k generalizing u with
  | zero => have : u = 0 := by simpa using h
            subst this; simp [dg]
  | succ k ih =>
    by_cases h0 : u = 0
    · subst h0; simp [dg]
    · have := congrArg List.length (dg_step h0 [])
      simp at this
      have := ih (u / 10) (by rw [Nat.pow_succ] at h; omega)
      omega
theorem neg_tmod (u : Nat) : (-(u : Int)).tmod 10 = -((u % 10 : Nat) : Int) := by rw [Int.neg_tmod]; rfl
theorem neg_tdiv (u : Nat) : (-(u : Int)).tdiv 10 = -((u / 10 : Nat) : Int) := by rw [Int.neg_tdiv]; rfl
theorem digit_toNat (u : Nat) : ((UInt8.ofNat (48 + u % 10)).toNat : Int) = 48 + ((u % 10 : Nat) : Int) := by
  have : (UInt8.ofNat (48 + u % 10)).toNat = 48 + u % 10 := by simp; omega
  omega

theorem l01Dec_pos (n : Nat) (w : World) (hn : n ≤ 9223372036854775807) (h0 : n ≠ 0) :
    Calls Tryd.prog 10 #[.int .i64 n] w fun e w' => e = .returned (.string ⟨(dg n).toArray⟩) ∧ Below w.heap.size w w' := by
  have hlen := dg_len n 19 (by omega)
  have H0 := Lib.hid h0
  clear h0
  go_enter Tryd.func10, Tryd.ntmps10
  go_wp2
  go_loopw [3, 4, 5] (fun v k _ wr => ∃ (u g cap : Nat) (l : List UInt8), u ≤ n ∧ k = .int .i64 u ∧ v = .slice (some ⟨g, 0, none⟩) l.length cap ∧ Bys wr w.heap.size (.slice (some ⟨g, 0, none⟩) l.length cap) l ∧ Hid (dg u ++ l = dg n) ∧ Below w.heap.size w wr) (fun _ k _ _ => (intOf k).toNat)
  case atStart =>
    refine ⟨n, w.heap.size, 0, [], Nat.le_refl _, rfl, rfl, World.ownsRow_lit w #[] 0 (Nat.le_refl _) (by simp [maxLen]) rfl, by unfold Hid; simp, (Below.refl _ _).alloc (Nat.le_refl _) _⟩
  case round =>
    obtain ⟨u, g, cap, l, hu, rfl, rfl, hb, hl, hB⟩ := hrel
    have hll : l.length ≤ 1000 := by
      have := congrArg List.length hl.out
      simp at this
      omega
    have hsz := hB.size
    by_cases hz : u = 0
    · subst hz
      have hl' := hl.out
      rw [dg_zero, List.nil_append] at hl'
      subst hl'
      have hne : (((dg n).length : Int) == 0) = false := by
        have : dg n ≠ [] := by
          unfold dg
          rw [if_neg H0.out, Lib.decDigits]
          split <;> simp
        have := List.length_pos_iff.2 this
        simp; omega
      have hcv := run_convert_bytes_back (P := Tryd.prog) wr 33 9 5 ⟨g, 0, none⟩ cap (dg n) Tryd.underlying33 Tryd.underlying5 Tryd.underlying9 (fun j hj => World.ownsRow.cells hb (g := g) rfl j _ (by simp [Lib.byteCells, hj]))
      have HB := Lib.hid hB
      clear hl hlen hll hB hb
      go_wp2
      go_ret
      exact ⟨rfl, HB.out⟩
    · have hst := dg_step hz l
      have hd := digit_toNat u
      have hr1 : u % 10 < 10 := Nat.mod_lt _ (by omega)
      have hHH := Lib.hid (hst.trans hl.out)
      clear hst hlen hl
      obtain ⟨r, hr⟩ : ∃ r, r = u % 10 := ⟨_, rfl⟩
      obtain ⟨q, hq⟩ : ∃ q, q = u / 10 := ⟨_, rfl⟩
      have hmr : (u : Int) % 10 = (r : Int) := by omega
      have hmq : (u : Int) / 10 = (q : Int) := by omega
      have hqu : q < u := by omega
      rw [← hr] at hd hr1 hHH
      rw [← hq] at hHH
      generalize UInt8.ofNat (48 + r) = c at hd hHH
      have HD := Lib.hid hd
      have hu0 : ((u : Int) != 0) = true := by simp; omega
      clear hd hr hq
      go_wp2_with (at_builtin; refine append_front _ rfl _ _ rfl _ g cap l c _ ?_ rfl rfl hb hll hsz ?_)
      · exact HD.out.symm
      · intro g' cap' w1 hb1 b1
        have B1 := hB.trans (b1.mono hsz)
        clear hB b1 hb
        go_wp2
        go_roundw
        case rel => exact ⟨q, g', cap', c :: l, by omega, by go_num, rfl, hb1, hHH, B1⟩
        case measure => simp [intOf]; omega

theorem l01Dec_neg (n : Nat) (w : World) (hn : n ≤ 9223372036854775808) (h0 : n ≠ 0) :
    Calls Tryd.prog 10 #[.int .i64 (-(n : Int))] w fun e w' => e = .returned (.string ⟨(45 :: dg n).toArray⟩) ∧ Below w.heap.size w w' := by
  have hlen := dg_len n 19 (by omega)
  have H0 := Lib.hid h0
  have hneg : (-(n : Int)) < 0 := by omega
  clear h0
  go_enter Tryd.func10, Tryd.ntmps10
  go_wp2
  go_loopw [3, 4, 5] (fun v k _ wr => ∃ (u g cap : Nat) (l : List UInt8), u ≤ n ∧ k = .int .i64 (-(u : Int)) ∧ v = .slice (some ⟨g, 0, none⟩) l.length cap ∧ Bys wr w.heap.size (.slice (some ⟨g, 0, none⟩) l.length cap) l ∧ Hid (dg u ++ l = dg n) ∧ Below w.heap.size w wr) (fun _ k _ _ => (- intOf k).toNat)
  case atStart =>
    refine ⟨n, w.heap.size, 0, [], Nat.le_refl _, rfl, rfl, World.ownsRow_lit w #[] 0 (Nat.le_refl _) (by simp [maxLen]) rfl, by unfold Hid; simp, (Below.refl _ _).alloc (Nat.le_refl _) _⟩
  case round =>
    obtain ⟨u, g, cap, l, hu, rfl, rfl, hb, hl, hB⟩ := hrel
    have hll : l.length ≤ 1000 := by
      have := congrArg List.length hl.out
      simp at this
      omega
    have hsz := hB.size
    by_cases hz : u = 0
    · subst hz
      have hl' := hl.out
      rw [dg_zero, List.nil_append] at hl'
      subst hl'
      have hne : (((dg n).length : Int) == 0) = false := by
        have : dg n ≠ [] := by
          unfold dg
          rw [if_neg H0.out, Lib.decDigits]
          split <;> simp
        have := List.length_pos_iff.2 this
        simp; omega
      have hcv := run_convert_bytes_back (P := Tryd.prog) wr 33 9 5 ⟨g, 0, none⟩ cap (dg n) Tryd.underlying33 Tryd.underlying5 Tryd.underlying9 (fun j hj => World.ownsRow.cells hb (g := g) rfl j _ (by simp [Lib.byteCells, hj]))
      have hcat : ∀ wx, (Op.stringOp .add (⟨#[45]⟩ : ByteArray) (⟨(dg n).toArray⟩ : ByteArray)).run Tryd.prog wx = .ok (.string ⟨(45 :: dg n).toArray⟩) wx := fun wx => by
        rw [run_string_add_sum wx _ _ (by
          have e1 : (⟨#[45]⟩ : ByteArray).size = 1 := rfl
          have e2 : (⟨(dg n).toArray⟩ : ByteArray).size = (dg n).length := rfl
          rw [e1, e2]; omega)]
        congr 2
        all_goals (apply ByteArray.ext; simp)
      have HB := Lib.hid hB
      have HN := Lib.hid hneg
      clear hl hlen hll hB hb
      go_wp2
      go_ret
      exact ⟨rfl, HB.out⟩
    · have hst := dg_step hz l
      have hd := digit_toNat u
      have hr1 : u % 10 < 10 := Nat.mod_lt _ (by omega)
      have hHH := Lib.hid (hst.trans hl.out)
      have hmr := neg_tmod u
      have hmq := neg_tdiv u
      have hqu : u / 10 < u := by omega
      clear hst hlen hl
      generalize u % 10 = r at hd hr1 hHH hmr
      generalize u / 10 = q at hHH hmq hqu
      generalize UInt8.ofNat (48 + r) = c at hd hHH
      have HD := Lib.hid hd
      have hu0 : ((-(u : Int)) != 0) = true := by simp; omega
      clear hd hneg
      by_cases hr0 : r = 0
      · subst hr0
        have hmr0 : (-(u : Int)).tmod 10 = 0 := by rw [hmr]; rfl
        clear hmr
        go_wp2_with (at_builtin; refine append_front _ rfl _ _ rfl _ g cap l c _ ?_ rfl rfl hb hll hsz ?_)
        · exact HD.out.symm
        · intro g' cap' w1 hb1 b1
          have B1 := hB.trans (b1.mono hsz)
          clear hB b1 hb
          go_wp2
          go_roundw
          case rel => exact ⟨q, g', cap', c :: l, by omega, by go_num, rfl, hb1, hHH, B1⟩
          case measure => simp [intOf]; omega
      · have hrn : (-(r : Int)) < 0 := by omega
        go_wp2_with (at_builtin; refine append_front _ rfl _ _ rfl _ g cap l c _ ?_ rfl rfl hb hll hsz ?_)
        · have := HD.out; omega
        · intro g' cap' w1 hb1 b1
          have B1 := hB.trans (b1.mono hsz)
          clear hB b1 hb
          go_wp2
          go_roundw
          case rel => exact ⟨q, g', cap', c :: l, by omega, by go_num, rfl, hb1, hHH, B1⟩
          case measure => simp [intOf]; omega

theorem l01Dec_zero (w : World) :
    Calls Tryd.prog 10 #[.int .i64 0] w fun e w' => e = .returned (.string ⟨#[48]⟩) ∧ Below w.heap.size w w' := by
  go_enter Tryd.func10, Tryd.ntmps10
  go_wp2
  refine wp_loop_rounds 1 ?_
  rw [rounds_succ]
  go_wp2
  go_ret
  exact ⟨rfl, (Below.refl _ _).alloc (Nat.le_refl _) _⟩

/-- the decimal form, as a string -/
def decS (n : Int) : ByteArray := ⟨(Lib.itoa n).toArray⟩

theorem l01Dec_any (n : Int) (w : World) (h1 : -9223372036854775808 ≤ n) (h2 : n ≤ 9223372036854775807) :
    Calls Tryd.prog 10 #[.int .i64 n] w fun e w' => e = .returned (.string (decS n)) ∧ Below w.heap.size w w' := by
  rcases Int.lt_trichotomy n 0 with h | h | h
  · obtain ⟨k, hk⟩ : ∃ k : Nat, n = -(k : Int) := ⟨n.natAbs, by omega⟩
    subst hk
    have : decS (-(k : Int)) = ⟨(45 :: dg k).toArray⟩ := by
      unfold decS Lib.itoa dg
      rw [if_pos h, if_neg (by omega), show (-(k : Int)).natAbs = k from by omega]
    rw [this]
    exact l01Dec_neg k w (by omega) (by omega)
  · subst h
    have : decS 0 = ⟨#[48]⟩ := by
      unfold decS Lib.itoa
      rw [if_neg (by omega), Lib.decDigits]; rfl
    rw [this]
    exact l01Dec_zero w
  · obtain ⟨k, hk⟩ : ∃ k : Nat, n = (k : Int) := ⟨n.natAbs, by omega⟩
    subst hk
    have : decS (k : Int) = ⟨(dg k).toArray⟩ := by
      unfold decS Lib.itoa dg
      rw [if_neg (by omega), if_neg (by omega)]; rfl
    rw [this]
    exact l01Dec_pos k w (by omega) (by omega)

end Go.Proofs.YtjaofiepmhgjiaaDoor
