/- The states of one kind, the model's: StateCount, AllStates, StateIndex, StateAt. No conditions. -/
import Derived.Test.YtdghbbnddgngoaaGpA
import Derived.Test.YtdghbbnddgngoaaStK
import Derived.Test.YtdghbbnddgngoaaSees
import Derived.Test.YtdghbbnddgngoaaStR
import Derived.Maps.AppendAt
namespace Go.Proofs.Ytdghbbnddgngoaa
open Go.RowKit
set_option linter.unusedSimpArgs false
set_option linter.unusedVariables false

/-- the code of a number of props and a height -/
def gndC (n h : Int) : Int := if gndOk n h then 0 else 2
theorem gndOk_nat {n h : Int} (k : gndOk n h = true) : ∃ p a : Nat, n = p ∧ h = a ∧ 1 ≤ a ∧ a ≤ 10 ∧ p ≤ a := by
  simp only [gndOk, Bool.and_eq_true, inB_iff] at k
  exact ⟨n.toNat, h.toNat, by omega, by omega, by omega, by omega, by omega⟩
theorem gndL_ok {n h : Int} (k : gndOk n h = true) : gndL n h = mskS h.toNat n.toNat (2 ^ h.toNat) := if_pos k
theorem gndL_no {n h : Int} (k : gndOk n h = false) : gndL n h = [] := by unfold gndL; exact if_neg (by rw [gndOk] at k; rw [k]; simp)

set_option maxRecDepth 10000 in
set_option maxHeartbeats 1000000 in
theorem l09Masks_any (p h : Nat) (w : World) (hp : p ≤ 10) (hh : h ≤ 10) :
    Calls Try.prog 114 #[.int .i64 p, .int .i64 h] w fun e w' => ∃ u, e = .returned u ∧ Ints w' w.heap.size u (mskI p (2 ^ h)) ∧ Below w.heap.size w w' := by
  obtain ⟨P, hP, hPN, p1, p2⟩ := nextPow h hh
  obtain ⟨K, hK⟩ : ∃ K : Nat, 2 ^ h = K := ⟨_, rfl⟩
  rw [hK] at hPN ⊢
  have HK := Lib.hid hK
  subst hPN
  have HCan := Lib.hid (fun (t : Nat) (W : World) (ht : t < K) => l08Count_any t W (by omega))
  clear hK
  have I0 : Ints (w.alloc (.cells #[] 2)) w.heap.size (.slice (some ⟨w.heap.size, 0, none⟩) 0 0) [] := by
    have := World.ownsRow_lit (e := 2) (size := 1) w #[] 0 (Nat.le_refl _) (by simp [maxLen]) rfl
    simpa [Ints] using this
  have B0 : Below w.heap.size w (w.alloc (.cells #[] 2)) := (Below.refl _ w).alloc (Nat.le_refl _) _
  go_enter Try.func114, Try.ntmps114
  have HM1 := Lib.hid (fun k => mskI_hit (p := p) (k := k))
  have HM2 := Lib.hid (fun k => mskI_miss (p := p) (k := k))
  have HML := Lib.hid (fun k => Nat.le_trans (Nat.le_of_eq (mskI_len p k)) (mskN_len p k))
  go_wp2
  go_loopw [5, 6] (fun v i wr => ∃ k : Nat, k ≤ K ∧ i = .int .i64 k ∧ Ints wr w.heap.size v (mskI p k) ∧ Below w.heap.size w wr) (fun _ i _ => K - (intOf i).toNat)
  case atStart => exact ⟨0, Nat.zero_le _, rfl, I0, B0⟩
  case round =>
    clear I0 B0
    obtain ⟨k, hk, rfl, hi, hb⟩ := hrel
    by_cases hlt : k < K
    · have HF := HCan.out k wr hlt
      have hlen := HML.out k
      have h1 := HM1.out k
      have h2 := HM2.out k
      have hlt' : decide (k < K) = true := decide_eq_true hlt
      clear HCan HM1 HM2 HML
      have hkey : ((popN k : Int) == (p : Int)) = decide (popN k = p) := by
        by_cases h : popN k = p
        · simp [h]
        · rw [decide_eq_false h]; exact beq_eq_false_iff_ne.2 (by omega)
      generalize popN k = q at *
      go_wp2_with fail
      refine HF.mono ?_
      rintro e w1 ⟨rfl, b1⟩
      have hi1 := hi.below b1
      have hb1 := hb.trans (b1.mono hb.size)
      have hBs1 : w.heap.size ≤ w1.heap.size := hb1.size
      clear HF hi hb b1
      by_cases hq : q = p
      · rw [decide_eq_true hq] at hkey
        have HE := Lib.hid (h1 hq)
        have hlen : (mskI p k).length ≤ 1000000000 := by omega
        clear h1 h2 hq
        go_wp2_with (at_builtin; refine append_int _ rfl _ _ rfl _ _ _ rfl hi1 (k : Int) rfl hlen hBs1 ?_; intro v' w2 hi2 hg2; refine Hid.out ?_)
        have hb2 := hi1.below_grown hb1 hBs1 hg2
        rw [← HE.out] at hi2
        clear hg2 hi1 hb1
        refine Lib.hid ?_
        go_wp2
        go_roundw
        case rel => exact ⟨k + 1, by omega, by go_num, hi2, hb2⟩
        case measure => simp [intOf]; omega
      · rw [decide_eq_false hq] at hkey
        have HE := Lib.hid (h2 hq)
        clear h1 h2 hq
        go_wp2
        go_roundw
        case rel => exact ⟨k + 1, by omega, by go_num, by rw [HE.out]; exact hi1, hb1⟩
        case measure => simp [intOf]; omega
    · obtain rfl : k = K := by omega
      clear HCan HM1 HM2 HML
      go_wp2
      go_ret
      exact ⟨_, rfl, hi, hb⟩

set_option maxRecDepth 10000 in
set_option maxHeartbeats 1000000 in
theorem l09Find_any (v : Value) (B p k m : Nat) (w : World) (hI : Ints w B v (mskI p k)) (hm : m < k) (hp : popN m = p) (hk : k ≤ 1024) :
    Calls Try.prog 118 #[v, .int .i64 m] w fun e w' => e = .returned (.int .i64 (idxN m)) ∧ w = w' := by
  subst hp
  obtain ⟨e1, e2⟩ := mskN_idx hm
  have hlen := mskN_len (popN m) k
  have hIl := mskI_len (popN m) k
  obtain ⟨g, cap, rfl, q1, q2, q3, q4⟩ := Ints.shape2 hI (by omega)
  rw [hIl]
  have HC := Lib.hid (fun i (hi : i < (mskN (popN m) k).length) => show w.cell? ⟨g, i, none⟩ = some (.int .i64 ((mskN (popN m) k).getD i 0 : Nat)) from by
    rw [← mskI_at hi]; exact hI.cell i (by omega))
  have HU := Lib.hid (fun i j (h1 : i < j) (h2 : j < (mskN (popN m) k).length) => mskN_up h1 h2)
  have HE2 := Lib.hid e2
  clear e2 hI hIl q1 q2 q3 q4
  generalize hn : (mskN (popN m) k).length = n at *
  clear hn
  generalize idxN m = x at *
  go_enter Try.func118, Try.ntmps118
  go_wp2
  go_loopw [5, 6] (fun lo hi wr => ∃ a b : Int, 0 ≤ a ∧ a ≤ x ∧ (x : Int) ≤ b ∧ b < n ∧ lo = .int .i64 a ∧ hi = .int .i64 b ∧ wr = w) (fun lo hi _ => (intOf hi - intOf lo).toNat)
  case atStart => exact ⟨0, (n : Int) - 1, by omega, by omega, by omega, by omega, rfl, rfl, rfl⟩
  case round =>
    obtain ⟨a, b, ha, hax, hxb, hbn, rfl, rfl, rfl⟩ := hrel
    by_cases hlt : a < b
    · obtain ⟨c, hc⟩ : ∃ c : Int, (a + b) / 2 = c := ⟨_, rfl⟩
      have hc0 : 0 ≤ c := by omega
      have hcn : c < n := by omega
      have hca : a ≤ c := by omega
      have hcb : c < b := by omega
      have hcell := HC.out c.toNat (by omega)
      by_cases hcx : c < x
      · have hup := HU.out c.toNat x (by omega) e1
        rw [HE2.out] at hup
        generalize (mskN (popN m) k).getD c.toNat 0 = y at *
        have ht : decide (y < m) = true := decide_eq_true hup
        clear HC HU hup
        go_wp2
        go_roundw
        case rel => exact ⟨c + 1, b, by omega, by omega, by omega, by omega, by first | rfl | rw [hc], rfl, by first | trivial | rfl⟩
        case measure => simp [intOf]; omega
      · have hup : m ≤ (mskN (popN m) k).getD c.toNat 0 := by
          by_cases he : c = x
          · rw [he, Int.toNat_natCast, HE2.out]; exact Nat.le_refl _
          · have := HU.out x c.toNat (by omega) (by omega)
            rw [HE2.out] at this; omega
        generalize (mskN (popN m) k).getD c.toNat 0 = y at *
        have ht : decide (y < m) = false := decide_eq_false (by omega)
        clear HC HU hup
        go_wp2
        go_roundw
        case rel => exact ⟨a, c, by omega, by omega, by omega, by omega, rfl, by first | rfl | rw [hc], by first | trivial | rfl⟩
        case measure => simp [intOf]; omega
    · obtain rfl : a = x := by omega
      clear HC HU HE2
      go_wp2
      go_ret
      exact ⟨rfl, rfl⟩

theorem append_st2 (w0 : World) {ops : Array Oper} {rest : List Oper} {o : Oper} {a : Act} {Q : Exit → Act → World → Prop} (hgd : o.guard = none) (s x : Operand)
    (ho : o.op = .call { callee := .builtin .append, args := #[s, x], argTypes := #[53, 53] }) (B : Nat) (v : Value) (xs : List Sta) (hs : a.eval s = v) (h : Sts w0 B v xs) (y : Sta)
    (hx : a.eval x = .slice (some ⟨w0.heap.size, 0, none⟩) 1 1) (hlen : xs.length ≤ 1000000) (hB : B ≤ w0.heap.size)
    (hK : ∀ v' w', Sts w' B v' (xs ++ [y]) → w0.grownBy w' v.ownBlock → (v'.ownBlock = v.ownBlock ∨ v'.ownBlock = some (w0.heap.size + 1)) → wpList Try.prog ops Q rest (a.put o.dst v') w') :
    wpList Try.prog ops Q (o :: rest) a (w0.alloc (.cells #[.int .i64 y.1, .int .i64 y.2] 60)) := by
  obtain ⟨i0, hi, hz0, hz1, hz2⟩ := info_parts Try.infoSt
  refine wpList_append_own_at (w0.alloc (.cells (stV y).toArray 60)) hgd s x 53 ho B 60 i0 (.agg #[.int .i64 0, .int .i64 0]) 2 16 Try.underlying53 hi hz0 hz1 hz2 rfl (by decide) v xs.length _ hs (World.ownsRow.alloc h _)
    ⟨w0.heap.size, 0, none⟩ 1 1 (stV y) hx rfl ?_ (stV_one y) (by unfold maxLen; omega) (by omega) (by simp; omega) ?_
  · intro j u hj
    match j, hj with
    | 0, hj => simp [stV] at hj; subst hj; simp [Addr.add, stV]
    | 1, hj => simp [stV] at hj; subst hj; simp [Addr.add, stV]
    | j + 2, hj => simp [stV] at hj
  · intro v' w' h1 h2 _ h3
    refine hK v' w' ?_ ⟨h2.os, h2.tape, h2.output, by have := h2.size; simp at this; omega, fun k hk hne => ?_⟩ (by simpa using h3)
    · unfold Sts OwnK
      simpa using h1
    · rw [h2.block k (by simp; omega) hne]
      exact Below.heap_alloc _ _ _ hk

/-- the state with an index -/
def atOk (n h i : Int) : Bool := gndOk n h && inB i 0 ((gndL n h).length - 1)
def atH (n h i : Int) : Int := if atOk n h i then h else 0
def atM (n h i : Int) : Int := if atOk n h i then ((gndL n h).getD i.toNat (0, 0)).2 else 0
def atC (n h i : Int) : Int := if atOk n h i then 0 else 2
end Go.Proofs.Ytdghbbnddgngoaa
