/- All arcs of a graph in one list: slices.Concat over its rows, arcs, ArcsOf, ArcCount, the program's and the model's. Conditions: the library's table as its text lays it. -/
import Derived.Test.YtblllikenjofoaaDoorArG
import Derived.Lib.AppendZeros
namespace Go.Proofs.YtblllikenjofoaaDoor
open Go.RowKit
set_option linter.unusedSimpArgs false
set_option linter.unusedVariables false

theorem zerosA_size (n : Nat) : (Builtin.zeroCells #[.int .i64 0, .int .i64 0, .int .i64 0] n).size = n * 3 := by simp [Builtin.zeroCells]
theorem zerosA_row (w : World) (n c : Nat) (hc : n ≤ c) (hm : c ≤ maxLen) :
    Arcs (w.drew.alloc (.cells (Builtin.zeroCells #[.int .i64 0, .int .i64 0, .int .i64 0] n ++ Builtin.zeroCells #[.int .i64 0, .int .i64 0, .int .i64 0] (c - n)) 40)) w.heap.size (.slice (some ⟨w.heap.size, 0, none⟩) 0 c) [] := by
  refine ⟨rfl, .inr ⟨w.heap.size, c, Builtin.zeroCells #[.int .i64 0, .int .i64 0, .int .i64 0] n ++ Builtin.zeroCells #[.int .i64 0, .int .i64 0, .int .i64 0] (c - n), rfl, Nat.le_refl _, ?_, Nat.zero_le _, hm, ?_, by simp⟩⟩
  · show (w.heap.push _)[w.heap.size]? = _
    exact Array.getElem?_push_size
  · rw [Array.size_append, zerosA_size, zerosA_size]; omega

set_option maxRecDepth 10000 in
theorem growArc_nil (n : Nat) (w : World) (h1 : 1 ≤ n) (hn : n ≤ 100000) :
    Calls Tryd.prog 104 #[.slice none 0 0, .int .i64 n] w fun e w' => ∃ g c, e = .returned (.slice (some ⟨g, 0, none⟩) 0 c) ∧ Arcs w' w.heap.size (.slice (some ⟨g, 0, none⟩) 0 c) [] ∧ Below w.heap.size w w' := by
  obtain ⟨i0, hi, hz0, hz1, hz2⟩ := info_parts Tryd.infoArc
  have hlt := Nat.mod_lt (w.tape w.drawn (.appendCap n 0 40)) (show 0 < 2 ^ 63 - n by omega)
  have hcap : n ≤ grownCap w n 0 40 ∧ grownCap w n 0 40 ≤ maxLen := by
    simp only [grownCap, Question.cut, maxLen]
    omega
  have hrow := Lib.hid (zerosA_row w n _ hcap.1 hcap.2)
  go_enter Tryd.func104, Tryd.ntmps104
  go_wp2_with (at_builtin; refine Lib.wpList_append_run _ rfl _ _ _ _ rfl _ _ rfl rfl _ _ (Lib.run_append_nil_zeros w 35 3 _ 40 i0 (.agg #[.int .i64 0, .int .i64 0, .int .i64 0]) .i64 .i64 Tryd.underlying35 rfl hi hz0 n (by omega) (by omega) (by omega) (by rw [hz2]; omega)) ?_; refine Hid.out ?_)
  generalize grownCap w n 0 40 = c at *
  refine Lib.hid ?_
  go_wp2
  go_ret
  exact ⟨_, _, rfl, hrow.out, (Below.drew (Below.refl _ w)).alloc (by simp) _⟩

theorem append_arcs (w0 : World) {ops : Array Oper} {rest : List Oper} {o : Oper} {a : Act} {Q : Exit → Act → World → Prop} (hgd : o.guard = none) (s x : Operand)
    (ho : o.op = .call { callee := .builtin .append, args := #[s, x], argTypes := #[35, 35] }) (B B' : Nat) (v : Value) (xs ys : List ArcT) (hs : a.eval s = v) (h : Arcs w0 B v xs) (gx cx m : Nat)
    (hx : a.eval x = .slice (some ⟨gx, 0, none⟩) m cx) (hy : Arcs w0 B' (.slice (some ⟨gx, 0, none⟩) m cx) ys) (hm : m = ys.length) (hlen : xs.length ≤ 1000000) (hlen2 : ys.length ≤ 1000000) (hB : B ≤ w0.heap.size)
    (hK : ∀ v' w', Arcs w' B v' (xs ++ ys) → w0.grownBy w' v.ownBlock → wpList Tryd.prog ops Q rest (a.put o.dst v') w') :
    wpList Tryd.prog ops Q (o :: rest) a w0 := by
  obtain ⟨i0, hi, hz0, hz1, hz2⟩ := info_parts Tryd.infoArc
  subst hm
  refine wpList_append_own_at w0 hgd s x 35 ho B 40 i0 (.agg #[.int .i64 0, .int .i64 0, .int .i64 0]) 3 24 Tryd.underlying35 hi hz0 hz1 hz2 rfl (by decide) v xs.length _ hs h
    ⟨gx, 0, none⟩ ys.length cx (ys.flatMap arcV) hx (flat_len arcV_len ys) ?_ (fun u hu => ?_) (by unfold maxLen; omega) (by omega) (by omega) ?_
  · intro j u hj
    have hlt : j < ys.length * 3 := by
      have := (List.getElem?_eq_some_iff.1 hj).1
      rwa [flat_len arcV_len] at this
    have := World.ownsRow.cellAt hy j hlt
    rw [hj] at this
    have hadd : (⟨gx, 0, none⟩ : Addr).add j = ⟨gx, j, none⟩ := by unfold Addr.add; split <;> simp_all
    rw [hadd]; exact this
  · obtain ⟨y, _, hy⟩ := List.mem_flatMap.1 hu
    exact arcV_one y u hy
  · intro v' w' h1 h2 _ h3
    refine hK v' w' ?_ h2
    unfold Arcs OwnK
    simpa using h1

theorem flat_take {pss : List (List ArcT)} {k : Nat} (hk : k < pss.length) : (pss.take (k + 1)).flatten = (pss.take k).flatten ++ pss.getD k [] := by
  rw [List.take_succ_eq_append_getElem hk, List.flatten_append]
  simp [hk]
theorem flat_le (pss : List (List ArcT)) (k : Nat) : (pss.take k).flatten.length ≤ pss.flatten.length := by
  have h := congrArg List.length (congrArg List.flatten (List.take_append_drop k pss))
  rw [List.flatten_append, List.length_append] at h
  omega

set_option maxRecDepth 10000 in
set_option maxHeartbeats 2000000 in
theorem concatArc_any (v : Value) (B : Nat) (pss : List (List ArcT)) (w : World) (hG : GraphIs w B v pss) (hn : pss.length ≤ 1024) (hr : ∀ j, j < pss.length → 1 ≤ (pss.getD j []).length) (hl1 : 1 ≤ pss.flatten.length) (hl2 : pss.flatten.length ≤ 20000) :
    Calls Tryd.prog 89 #[v] w fun e w' => ∃ u, e = .returned u ∧ Arcs w' w.heap.size u pss.flatten ∧ Below w.heap.size w w' := by
  obtain ⟨gb, hs, rfl, hsl, hH, hR⟩ := hG
  have HRW := Lib.hid (fun k (hk : k < pss.length) W (hW : Below w.heap.size w W) => show ∃ gx cx, W.cell? ⟨gb, k, none⟩ = some (.slice (some ⟨gx, 0, none⟩) (pss.getD k []).length cx) ∧ gx < w.heap.size ∧ Arcs W B (.slice (some ⟨gx, 0, none⟩) (pss.getD k []).length cx) (pss.getD k []) from by
    have hc := (hH.below hW).cell hd1_len nilV k 0 (by omega) (by decide)
    rw [Nat.mul_one, Nat.add_zero] at hc
    simp only [hd1, List.getElem?_cons_zero] at hc
    have hA := hR k hk
    obtain ⟨g, cap, e, _, hg, _⟩ := hA.shape2 (hr k hk)
    rw [e] at hc hA
    exact ⟨g, cap, hc, hg, hA.below hW⟩)
  have HST := Lib.hid (fun k (hk : k < pss.length) => flat_take hk)
  have HLE := Lib.hid (fun k => flat_le pss k)
  have HEN := Lib.hid (show (pss.take pss.length).flatten = pss.flatten from by rw [List.take_length])
  clear hH hR hr
  obtain ⟨n, hnn⟩ : ∃ n, n = pss.length := ⟨_, rfl⟩
  rw [← hnn] at hn hsl HRW HST HEN ⊢
  clear hnn
  go_enter Tryd.func89, Tryd.ntmps89
  go_wp2
  go_loopw [3, 11] (fun s i wr => ∃ k : Nat, k ≤ n ∧ i = .int .i64 k ∧ s = .int .i64 ((pss.take k).flatten.length : Nat) ∧ wr = w) (fun _ i _ => n - (intOf i).toNat)
  case atStart => exact ⟨0, Nat.zero_le _, rfl, rfl, rfl⟩
  case round =>
    obtain ⟨k, hk, rfl, rfl, rfl⟩ := hrel
    have hle := HLE.out k
    by_cases hlt : k < n
    · have hlt' : decide (k < n) = true := decide_eq_true hlt
      obtain ⟨gx, cx, hc, _, _⟩ := HRW.out k hlt wr (Below.refl _ _)
      have hst := congrArg List.length (HST.out k hlt)
      have hle2 := HLE.out (k + 1)
      rw [List.length_append] at hst
      rw [hst] at hle2
      have HS1 := Lib.hid hst
      clear HRW HST HLE HEN hst
      generalize (pss.take k).flatten.length = a at *
      generalize (pss.getD k []).length = b at *
      go_wp2
      go_roundw
      case rel => exact ⟨k + 1, by omega, by go_num, by rw [HS1.out, Int.natCast_add], by first | trivial | rfl⟩
      case measure => simp [intOf]; omega
    · obtain rfl : k = n := by omega
      rw [HEN.out] at hle ⊢
      have HGR := growArc_nil pss.flatten.length wr hl1 (by omega)
      generalize hN : pss.flatten.length = N at *
      go_wp2_with fail
      refine HGR.mono ?_
      rintro e w1 ⟨g, c, rfl, i1, b1⟩
      clear HGR
      have hTk : (pss.take 0).flatten = [] := rfl
      rw [← hTk] at i1
      clear hTk
      go_wp2
      go_loopw [6, 27] (fun s i wx => ∃ j : Nat, j ≤ k ∧ i = .int .i64 j ∧ Arcs wx wr.heap.size s (pss.take j).flatten ∧ Below wr.heap.size wr wx) (fun _ i _ => k - (intOf i).toNat)
      case atStart => exact ⟨0, Nat.zero_le _, rfl, i1, b1⟩
      case round =>
        clear i1 b1
        rename World => wx
        obtain ⟨j, hj, rfl, hO, hb⟩ := hrel
        have hle := HLE.out j
        by_cases hlt2 : j < k
        · have hlt' : decide (j < k) = true := decide_eq_true hlt2
          obtain ⟨gx, cx, hc, hgx, hA⟩ := HRW.out j hlt2 wx hb
          have HS1 := Lib.hid (HST.out j hlt2)
          have hle2 := HLE.out (j + 1)
          rw [HST.out j hlt2, List.length_append] at hle2
          have hbs := hb.size
          clear HRW HST HLE HEN
          go_wp2_with (at_builtin; refine append_arcs _ rfl _ _ rfl wr.heap.size B _ _ _ rfl hO gx cx _ rfl hA rfl (by omega) (by omega) hbs ?_; intro v' w3 hO3 hg3; refine Hid.out ?_)
          have hb3 := hO.below_grown hb hbs hg3
          rw [← HS1.out] at hO3
          clear hg3 hO hb hA
          refine Lib.hid ?_
          go_wp2
          go_roundw
          case rel => exact ⟨j + 1, by omega, by go_num, hO3, hb3⟩
          case measure => simp [intOf]; omega
        · obtain rfl : j = k := by omega
          rw [HEN.out] at hO
          clear HRW HST HLE HEN
          go_wp2
          go_ret
          exact ⟨_, rfl, hO, hb⟩
end Go.Proofs.YtblllikenjofoaaDoor
