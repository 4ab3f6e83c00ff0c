/- HandThrows, the program's: slices.Collect of the iterator. No conditions. -/
import Derived.Test.YtlpeigeadjojnaaHdU
namespace Go.Proofs.Ytlpeigeadjojnaa
open Go.RowKit Go.Shelf
set_option linter.unusedSimpArgs false
set_option linter.unusedVariables false
attribute [local go_sem] Oper.semAt_some

set_option maxHeartbeats 1000000 in
theorem collectH_in (n gf : Nat) (hn : 4 ≤ n) (p o : List Int) (bs lb : Array Value) (eg : ∀ args w, (callFunc gf args).run Try.prog w = .ok (.enter gf args) w) (T : World → Prop) (S : List (HB p o) → Prop) (w : World)
    (hTb : ∀ W, Below w.heap.size w W → T W)
    (hseq : ∀ W, Below w.heap.size w W → SeqBx Fence.wide (n - 1 - 1) Try.prog gf bs lb (encH p o) T S 145 W) :
    CallsIn Fence.wide n Try.prog 29 #[.func (.func gf) bs lb] w fun e w' => ∃ v ss, e = .returned v ∧ S ss ∧ Hths w' w.heap.size v (hbL ss) ∧ Below w.heap.size w w' := by
  refine callsIn_of_wp Try.func29 rfl trivial ?_ rfl
  simp only [Try.ntmps29, List.size_toArray, List.length_cons, List.length_nil, Nat.reduceAdd, Nat.reduceSub, Array.replicate_succ, Array.replicate_zero, List.push_toArray, List.append_toArray, List.nil_append, List.cons_append]
  gi_wp2_with fail
  refine ⟨trivial, fun _ => by omega, ?_⟩
  refine (appendSeqH_in (n - 1) gf (by omega) p o bs lb eg T S _ hTb hseq).mono ?_
  rintro e w1 ⟨v, ss, rfl, hS, hv, hb⟩
  gi_wp2
  go_ret
  exact ⟨v, ss, rfl, hS, hv, hb⟩

set_option maxHeartbeats 1000000 in
theorem handThrows_impl (v u : Value) (B C : Nat) (p o : List Int) (w : World) (h : Ints w B v p) (k : Ints w C u o) :
    Calls Try.prog 7 #[v, u] w fun e w' => ∃ x, e = .returned (.tuple #[x, .int .i64 (poC p o)]) ∧ Hths w' w.heap.size x (thA p o) ∧ Below w.heap.size w w' := by
  have HC := handedOf_any v u B C p o w h k
  cases hq : okPO p o with
  | false =>
    rw [thA_false hq, poC_false hq]
    rw [poC_false hq, hdP_false hq] at HC
    clear h k
    go_enter Try.func7, Try.ntmps7
    go_wp2_with fail
    refine HC.mono ?_
    rintro e w1 ⟨rfl, b1⟩
    have B2 := b1.alloc b1.size (.cells #[.slice none 0 0, .slice none 0 0] 42)
    go_wp2
    go_ret2
    exact ⟨_, rfl, OwnK.nil _ _ _ _ _, B2⟩
  | true =>
    have hcol : ∀ W : World, Below w.heap.size w W → Calls Try.prog 29 #[.func (.func 30) #[.agg #[v, u]] #[]] W fun e w' => ∃ x, e = .returned x ∧ Hths w' W.heap.size x (thH p o) ∧ Below W.heap.size W w' := fun W hW =>
      callsIn_wide.1 ((collectH_in 8 30 (by omega) p o #[.agg #[v, u]] #[] (enters_of Try.func30 (by kernel_rfl) rfl) (THd B C v u p o) (fun xs => hbL xs = thH p o) W
        (fun W' hb => ⟨(h.below hW).below hb, (k.below hW).below hb⟩) (fun W' _ => hdThrows_seq 6 (by omega) v u B C p o hq W')).mono (by
        rintro e w' ⟨x, ss, rfl, hS, hi, hb⟩
        rw [hS] at hi
        exact ⟨x, rfl, hi, hb⟩))
    rw [thA_true hq, poC_true hq]
    rw [poC_true hq, hdP_true hq] at HC
    obtain ⟨va, vc, rfl⟩ := ints_slH h
    obtain ⟨ua, uc, rfl⟩ := ints_slH k
    clear h k
    go_enter Try.func7, Try.ntmps7
    go_wp2_with fail
    refine HC.mono ?_
    rintro e w1 ⟨rfl, b1⟩
    have B2 := b1.alloc b1.size (.cells #[.slice va p.length vc, .slice ua o.length uc] 42)
    have hcc := hcol _ B2
    clear hcol HC
    go_wp2_with (go_at_call 29; refine hcc.mono ?_; rintro e w2 ⟨x, rfl, hx, b2⟩; refine Hid.out ?_)
    have hx2 := hx.mono B2.size
    have B3 := B2.trans (b2.mono B2.size)
    refine Lib.hid ?_
    go_wp2
    go_ret2
    exact ⟨_, rfl, hx2, B3⟩
end Go.Proofs.Ytlpeigeadjojnaa
