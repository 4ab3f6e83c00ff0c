/- The laws' own helpers on slices of strings: markText, eqStringS, markStringS, heldStringS. No conditions but bounds on lengths. -/
import Derived.Test.YtjaofiepmhgjiaaOwn
import Derived.Laws.IdiomStrings
import Derived.Deep.RegionHeld3
import Derived.Deep.DeepCutAuto
import Derived.Lib.Strings
namespace Go.Proofs.Ytjaofiepmhgjiaa
open Go.RowKit
set_option linter.unusedSimpArgs false
set_option linter.unusedVariables false

/-- a slice of strings of the call's own -/
abbrev Strs (w : World) (B : Nat) (v : Value) (ss : List ByteArray) : Prop := Own 9 Value.string w B v ss
theorem Try.infoS : (Try.prog.info? 9).map (fun i => (i.zero, i.size, i.bytes)) = some (some (.string ⟨#[]⟩), 1, 16) := by kernel_rfl

def strOf (l : List UInt8) : ByteArray := ⟨l.toArray⟩
theorem strOf_size (l : List UInt8) : (strOf l).size = l.length := rfl
theorem strOf_app (l m : List UInt8) : strOf l ++ strOf m = strOf (l ++ m) := by
  apply ByteArray.ext
  simp [strOf]
theorem strOf_cat (l m : List UInt8) (h : l.length + m.length ≤ 1000000000) (w : World) : (Op.stringOp .add (strOf l) (strOf m)).run Try.prog w = .ok (.string (strOf (l ++ m))) w := by
  rw [run_string_add_sum w _ _ (by rw [strOf_size, strOf_size]; omega), strOf_app]

/-- the digits of a number ahead of some bytes -/
def mdF : Nat → Nat → List UInt8 → List UInt8
  | 0, _, acc => acc
  | f + 1, k, acc => if k = 0 then acc else mdF f (k / 10) (UInt8.ofNat (48 + k % 10) :: acc)
theorem mdF_zero (f : Nat) (acc : List UInt8) : mdF f 0 acc = acc := by cases f <;> simp [mdF]
theorem mdF_fuel : ∀ (k f : Nat) (acc : List UInt8), k < f → mdF f k acc = mdF (k + 1) k acc := by
  intro k
  induction k using Nat.strongRecOn with
  | _ k ih =>
    intro f acc hf
    obtain ⟨f', rfl⟩ : ∃ f', f = f' + 1 := ⟨f - 1, by omega⟩
    by_cases h0 : k = 0
    · subst h0; rw [mdF_zero, mdF_zero]
    · have hd : k / 10 < k := by omega
      simp only [mdF, if_neg h0]
      rw [ih (k / 10) hd f' _ (by omega), ih (k / 10) hd k _ hd]
theorem mdF_step {k : Nat} (h : k ≠ 0) (acc : List UInt8) : mdF (k + 1) k acc = mdF (k / 10 + 1) (k / 10) (UInt8.ofNat (48 + k % 10) :: acc) := by
  rw [mdF, if_neg h, mdF_fuel (k / 10) k _ (by omega)]
/-- the text that a number is marked by -/
def markT (k : Nat) : ByteArray := strOf (109 :: mdF (k + 1) k [])

theorem conv_byte (k : Nat) (W : World) : (convert 34 9 (.slice (some ⟨W.heap.size, 0, none⟩) 1 1)).run Try.prog (W.alloc (.cells #[.int .u8 (48 + (k : Int) % 10)] 5)) = .ok (.string (strOf [UInt8.ofNat (48 + k % 10)])) (W.alloc (.cells #[.int .u8 (48 + (k : Int) % 10)] 5)) := by
  have e : ((UInt8.ofNat (48 + k % 10)).toNat : Int) = 48 + (k : Int) % 10 := by simp; omega
  have h := run_convert_bytes_back (P := Try.prog) (W.alloc (.cells #[.int .u8 (48 + (k : Int) % 10)] 5)) 34 9 5 ⟨W.heap.size, 0, none⟩ 1 [UInt8.ofNat (48 + k % 10)] Try.underlying34 Try.underlying5 Try.underlying9 (fun j hj => by
    obtain rfl : j = 0 := by simp at hj; omega
    simp only [List.getElem_cons_zero]
    rw [e]
    simp [Addr.add])
  exact h

theorem markText_any (k : Nat) (w : World) (h1 : 1 ≤ k) (h2 : k ≤ 10000000) :
    Calls Try.prog 12 #[.int .i64 k] w fun e w' => e = .returned (.string (markT k)) ∧ Below w.heap.size w w' := by
  have hk0 : ¬ k = 0 := by omega
  have hk : 0 < (k : Int) := by omega
  go_enter Try.func12, Try.ntmps12
  go_wp2
  go_loopw [0, 3] (fun kv t wr => ∃ (j : Nat) (acc : List UInt8), kv = .int .i64 j ∧ t = .string (strOf acc) ∧ acc.length + j ≤ k ∧ Hid (mdF (j + 1) j acc = mdF (k + 1) k []) ∧ Below w.heap.size w wr) (fun kv _ _ => (intOf kv).toNat)
  case atStart => exact ⟨k, [], rfl, rfl, by simp, rfl, Below.refl _ _⟩
  case round =>
    obtain ⟨j, acc, rfl, rfl, hlen, hmd, hb⟩ := hrel
    by_cases hj : 0 < j
    · have hj' : 0 < (j : Int) := by omega
      have hcv := fun W => conv_byte j W
      have hcat := fun W => strOf_cat [UInt8.ofNat (48 + j % 10)] acc (by simp; omega) W
      have hst : Hid (mdF (j / 10 + 1) (j / 10) (UInt8.ofNat (48 + j % 10) :: acc) = mdF (k + 1) k []) := by
        show _ = _
        rw [← mdF_step (by omega)]; exact hmd.out
      have hsz := hb.size
      have hne : ¬ 9223372036854775807 < 1 + acc.length := by omega
      go_wp2
      refine ⟨⟨j / 10, UInt8.ofNat (48 + j % 10) :: acc, by simp, ?_, by simp; omega, hst, hb.alloc hb.size _⟩, ?_⟩
      · have e : (48 + UInt8.ofNat (j % 10) : UInt8) = UInt8.ofNat (48 + j % 10) := by simp [UInt8.ofNat_add]
        rw [e, strOf_app]; rfl
      · simp [intOf]; omega
    · obtain rfl : j = 0 := by omega
      have hz := hmd.out
      rw [mdF_zero] at hz
      have hsz2 : ¬ 9223372036854775807 < 1 + (strOf (mdF (k + 1) k [])).size := by rw [strOf_size, ← hz]; omega
      have hcat : ({ data := #[109] } : ByteArray) ++ strOf (mdF (k + 1) k []) = markT k := strOf_app [109] _
      go_wp2
      go_ret
      exact ⟨rfl, hb⟩

/-- eqStringS of two slices that hold the same texts. -/
theorem eqStringS_row (g g' cap cap' B B' : Nat) (xs : List ByteArray) (w : World) (h : Strs w B (.slice (some ⟨g, 0, none⟩) xs.length cap) xs) (h' : Strs w B' (.slice (some ⟨g', 0, none⟩) xs.length cap') xs) :
    Calls Try.prog 6 #[.slice (some ⟨g, 0, none⟩) xs.length cap, .slice (some ⟨g', 0, none⟩) xs.length cap'] w fun e w' => e = .returned (.bool true) ∧ Below w.heap.size w w' := by
  have hm := h.len
  obtain ⟨n, hn⟩ : ∃ n, n = xs.length := ⟨_, rfl⟩
  obtain ⟨s, hs⟩ : ∃ s : Nat → ByteArray, ∀ i, xs.getD i ⟨#[]⟩ = s i := ⟨_, fun _ => rfl⟩
  have hc : ∀ i, i < n → w.cell? ⟨g, i, none⟩ = some (.string (s i)) := fun i hi => by rw [← hs]; exact h.cell _ i (by omega)
  have hc' : ∀ i, i < n → w.cell? ⟨g', i, none⟩ = some (.string (s i)) := fun i hi => by rw [← hs]; exact h'.cell _ i (by omega)
  rw [← hn] at hm ⊢
  clear h h' hs
  have HN := Lib.hid hn
  clear hn
  go_enter Try.func6, Try.ntmps6
  go_wp2
  go_loopw [5] (fun i wr => ∃ k : Nat, k ≤ n ∧ i = .int .i64 k ∧ ∃ m, wr = w.drewN m) (fun i _ => n - (intOf i).toNat)
  case atStart => exact ⟨0, Nat.zero_le _, rfl, 0, rfl⟩
  case round =>
    obtain ⟨k, hk, rfl, m, rfl⟩ := hrel
    by_cases hlt : k < n
    · have c1 := hc k hlt
      have c2 := hc' k hlt
      clear hc hc'
      go_wp2
      go_quiet (fail)
      go_wp2
      go_roundw
      case rel => exact ⟨k + 1, by omega, by go_num, _, rfl⟩
      case measure => simp [intOf]; omega
    · obtain rfl : k = n := by omega
      clear hc hc'
      go_wp2
      go_ret
      exact ⟨rfl, below_drewN (Below.refl _ _) _⟩

theorem eqStringS_zero (a a' : Option Addr) (cap cap' : Nat) (w : World) :
    Calls Try.prog 6 #[.slice a 0 cap, .slice a' 0 cap'] w fun e w' => e = .returned (.bool true) ∧ Below w.heap.size w w' := by
  go_enter Try.func6, Try.ntmps6
  go_wp2
  refine wp_loop_rounds 1 ?_
  rw [rounds_succ]
  go_wp2
  go_ret
  exact ⟨rfl, Below.refl _ _⟩

theorem eqStringS_any (v u : Value) (B B' : Nat) (xs : List ByteArray) (w : World) (h : Strs w B v xs) (h' : Strs w B' u xs) :
    Calls Try.prog 6 #[v, u] w fun e w' => e = .returned (.bool true) ∧ Below w.heap.size w w' := by
  rcases h.shape with ⟨rfl, rfl⟩ | ⟨g, cap, rfl, _, _, _⟩
  · rcases h'.shape with ⟨rfl, _⟩ | ⟨g', cap', rfl, _, _, _⟩
    · exact eqStringS_zero _ _ _ _ _
    · exact eqStringS_zero _ _ _ _ _
  · rcases h'.shape with ⟨rfl, rfl⟩ | ⟨g', cap', rfl, _, _, _⟩
    · exact eqStringS_zero _ _ _ _ _
    · exact eqStringS_row _ _ _ _ _ _ _ _ h h'

/-- The n marks from k on. -/
def upsT (k n : Nat) : List ByteArray := (List.range n).map (fun (i : Nat) => markT (k + i))
theorem upsT_len (k n : Nat) : (upsT k n).length = n := by simp [upsT]
theorem upsT_get (k n j : Nat) (d : ByteArray) (h : j < n) : (upsT k n).getD j d = markT (k + j) := by
  unfold upsT
  rw [List.getD_eq_getElem?_getD, List.getElem?_map, List.getElem?_range h]
  rfl
theorem upsT_set (k : Nat) (xs : List ByteArray) (j : Nat) (h : j < xs.length) : (upsT k j ++ xs.drop j).set j (markT (k + j)) = upsT k (j + 1) ++ xs.drop (j + 1) := by
  apply List.ext_getElem
  · simp [upsT]; omega
  · intro i h1 h2
    simp [upsT] at h1
    simp only [upsT, List.getElem_set, List.getElem_append, List.length_map, List.length_range, List.getElem_map, List.getElem_range, List.getElem_drop]
    by_cases hik : j = i
    · subst hik
      simp
    · rw [if_neg hik]
      by_cases hlt : i < j
      · rw [dif_pos (by omega), dif_pos (by omega)]
      · rw [dif_neg (by omega), dif_neg (by omega)]
        congr 1; omega

theorem markStringS_row (g cap B : Nat) (xs : List ByteArray) (k0 : Nat) (w : World) (h : Strs w B (.slice (some ⟨g, 0, none⟩) xs.length cap) xs) (hk0 : 1 ≤ k0) (hk1 : k0 + xs.length ≤ 10000000) :
    Calls Try.prog 7 #[.slice (some ⟨g, 0, none⟩) xs.length cap, .int .i64 k0] w fun e w' =>
      e = .returned (.int .i64 ((k0 + xs.length : Nat) : Int)) ∧ Strs w' B (.slice (some ⟨g, 0, none⟩) xs.length cap) (upsT k0 xs.length) ∧ w.grownBy w' (some g) := by
  have hm := h.len
  obtain ⟨n, hn⟩ : ∃ n, n = xs.length := ⟨_, rfl⟩
  have hs : Strs w B (.slice (some ⟨g, 0, none⟩) xs.length cap) (upsT k0 0 ++ xs.drop 0) := by simpa [upsT] using h
  rw [← hn] at hm hk1 hs ⊢
  clear h
  have HN := Lib.hid hn
  clear hn
  go_enter Try.func7, Try.ntmps7
  go_wp2
  go_loopw [1, 5] (fun c i wr => ∃ k c0 : Nat, k ≤ n ∧ Hid (c0 = k0 + k) ∧ i = .int .i64 k ∧ c = .int .i64 c0 ∧ Strs wr B (.slice (some ⟨g, 0, none⟩) n cap) (upsT k0 k ++ xs.drop k) ∧ w.grownBy wr (some g))
    (fun _ i _ => n - (intOf i).toNat)
  case atStart => exact ⟨0, k0, Nat.zero_le _, rfl, rfl, rfl, hs, World.grownBy.refl _ _⟩
  case round =>
    obtain ⟨k, c0, hk, hc0, rfl, rfl, hr, hg⟩ := hrel
    by_cases hlt : k < n
    · have hn := HN.out
      have hcc := hc0.out
      have hlen : k < (upsT k0 k ++ xs.drop k).length := by simp [upsT_len]; omega
      have b1 : 1 ≤ c0 := by omega
      have b2 : c0 < 10000000 := by omega
      clear hn hcc
      go_wp2_with fail
      refine (markText_any c0 wr b1 (by omega)).mono ?_
      rintro e w1 ⟨rfl, hb⟩
      have hr1 := hr.below hb
      have hold := hr1.cell ⟨#[]⟩ k hlen
      have hfree := hr1.free k
      have hN := hr1.set k (markT c0)
      have hn := HN.out
      have hup := upsT_set k0 xs k (by omega)
      rw [← hc0.out] at hup
      rw [hup] at hN
      have hg1 : w.grownBy w1 (some g) := hg.trans ⟨hb.os, hb.tape, hb.output, hb.size, fun k hk _ => hb.block k hk⟩
      have hgN : w.grownBy (w1.setCell ⟨g, k, none⟩ (.string (markT c0))) (some g) := by
        refine ⟨hg1.os, hg1.tape, hg1.output, by simpa using hg1.size, fun k hk hne => ?_⟩
        rw [Below.heap_setCell _ _ _ _ (by simpa using fun e => hne (by rw [e]))]
        exact hg1.block k hk hne
      have hc1 : Hid (c0 + 1 = k0 + (k + 1)) := by
        show _ = _
        rw [hc0.out]; omega
      clear hs hn hlen hup
      go_wp2
      go_roundw
      case rel => exact ⟨k + 1, c0 + 1, by omega, hc1, by go_num, by go_num, hN, hgN⟩
      case measure => simp [intOf]; omega
    · obtain rfl : k = n := by omega
      have hn := HN.out
      have hd : xs.drop k = [] := by simp; omega
      rw [hd, List.append_nil] at hr
      have hcc := hc0.out
      subst hcc
      clear hs hn hd
      go_wp2
      go_ret
      exact ⟨rfl, hr, hg⟩

theorem markStringS_zero (a : Option Addr) (cap : Nat) (k0 : Nat) (w : World) :
    Calls Try.prog 7 #[.slice a 0 cap, .int .i64 k0] w fun e w' => e = .returned (.int .i64 k0) ∧ w = w' := by
  go_enter Try.func7, Try.ntmps7
  go_wp2
  refine wp_loop_rounds 1 ?_
  rw [rounds_succ]
  go_wp2
  go_ret
  exact ⟨rfl, rfl⟩

theorem markStringS_any (v : Value) (B : Nat) (xs : List ByteArray) (k0 : Nat) (w : World) (h : Strs w B v xs) (hk0 : 1 ≤ k0) (hk1 : k0 + xs.length ≤ 10000000) :
    Calls Try.prog 7 #[v, .int .i64 k0] w fun e w' =>
      e = .returned (.int .i64 ((k0 + xs.length : Nat) : Int)) ∧ Strs w' B v (upsT k0 xs.length) ∧ w.grownBy w' v.ownBlock := by
  rcases h.shape with ⟨rfl, rfl⟩ | ⟨g, cap, rfl, _, _, _⟩
  · refine (markStringS_zero _ _ _ _).mono ?_
    rintro e w' ⟨rfl, rfl⟩
    exact ⟨rfl, Own.nil _ _ _ _, World.grownBy.refl _ _⟩
  · exact markStringS_row _ _ _ _ _ _ h hk0 hk1

theorem heldStringS_row (g cap B : Nat) (n : Nat) (k0 : Nat) (w : World) (h : Strs w B (.slice (some ⟨g, 0, none⟩) n cap) (upsT k0 n)) (hg : g < w.heap.size) (hk0 : 1 ≤ k0) (hk1 : k0 + n ≤ 10000000) :
    Calls Try.prog 8 #[.slice (some ⟨g, 0, none⟩) n cap, .int .i64 k0] w fun e w' =>
      e = .returned (.int .i64 ((k0 + n : Nat) : Int)) ∧ Below w.heap.size w w' := by
  have hc : ∀ i, i < n → w.cell? ⟨g, i, none⟩ = some (.string (markT (k0 + i))) := fun i hi => by
    have := h.cell ⟨#[]⟩ i (by rw [upsT_len]; exact hi)
    rwa [upsT_get k0 n i _ hi] at this
  clear h
  go_enter Try.func8, Try.ntmps8
  go_wp2
  go_loopw [1, 5] (fun c i wr => ∃ k c0 : Nat, k ≤ n ∧ Hid (c0 = k0 + k) ∧ i = .int .i64 k ∧ c = .int .i64 c0 ∧ Below w.heap.size w wr)
    (fun _ i _ => n - (intOf i).toNat)
  case atStart => exact ⟨0, k0, Nat.zero_le _, rfl, rfl, rfl, Below.refl _ _⟩
  case round =>
    obtain ⟨k, c0, hk, hc0, rfl, rfl, hb⟩ := hrel
    by_cases hlt : k < n
    · have c1 := hc k hlt
      rw [← hc0.out] at c1
      have hmt : ∀ W, Below w.heap.size w W → Calls Try.prog 12 #[.int .i64 c0] W fun e w' => e = .returned (.string (markT c0)) ∧ Below w.heap.size w w' ∧ w'.cell? ⟨g, k, none⟩ = some (.string (markT c0)) := fun W hW => by
        have hcc := hc0.out
        refine (markText_any c0 W (by omega) (by omega)).mono ?_
        rintro e w1 ⟨rfl, hb1⟩
        have hb2 := hW.trans (hb1.mono hW.size)
        exact ⟨rfl, hb2, by rw [hb2.cell hg]; exact c1⟩
      have hc1 : wr.cell? ⟨g, k, none⟩ = some (.string (markT c0)) := by rw [hb.cell hg]; exact c1
      have HMT := Lib.hid hmt
      have b2 : c0 < 10000000 := by have := hc0.out; omega
      have hc2 : Hid (c0 + 1 = k0 + (k + 1)) := by
        show _ = _
        rw [hc0.out]; omega
      clear hc hmt c1
      go_wp2
      go_region_held3 (fun W => Below w.heap.size w W ∧ W.cell? ⟨g, k, none⟩ = some (.string (markT c0))) (first | exact ⟨by assumption, by assumption⟩ | exact ⟨Below.drew (by assumption), by assumption⟩) (first | (go_at_call 12; (with_reducible refine (HMT.out _ ?_).mono ?_); (first | assumption | exact Below.drew (by assumption)); rintro e w1 ⟨rfl, hb1, hc1⟩))
      go_wp2
      go_roundw
      case rel => exact ⟨k + 1, c0 + 1, by omega, hc2, by go_num, by go_num, by assumption⟩
      case measure => simp [intOf]; omega
    · obtain rfl : k = n := by omega
      have hcc := hc0.out
      subst hcc
      clear hc
      go_wp2
      go_ret
      exact ⟨rfl, hb⟩

theorem heldStringS_zero (a : Option Addr) (cap : Nat) (k0 : Nat) (w : World) :
    Calls Try.prog 8 #[.slice a 0 cap, .int .i64 k0] w fun e w' => e = .returned (.int .i64 k0) ∧ Below w.heap.size w w' := by
  go_enter Try.func8, Try.ntmps8
  go_wp2
  refine wp_loop_rounds 1 ?_
  rw [rounds_succ]
  go_wp2
  go_ret
  exact ⟨rfl, Below.refl _ _⟩

theorem heldStringS_any (v : Value) (B : Nat) (n : Nat) (k0 : Nat) (w : World) (h : Strs w B v (upsT k0 n)) (hk0 : 1 ≤ k0) (hk1 : k0 + n ≤ 10000000) :
    Calls Try.prog 8 #[v, .int .i64 k0] w fun e w' =>
      e = .returned (.int .i64 ((k0 + n : Nat) : Int)) ∧ Below w.heap.size w w' := by
  rcases h.shape with ⟨rfl, h0⟩ | ⟨g, cap, rfl, _, hg, _⟩
  · obtain rfl : n = 0 := by simpa [upsT_len] using congrArg List.length h0
    exact heldStringS_zero _ _ _ _
  · rw [upsT_len] at h ⊢
    exact heldStringS_row _ _ _ _ _ _ h hg hk0 hk1
end Go.Proofs.Ytjaofiepmhgjiaa
