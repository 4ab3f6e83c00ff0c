/- RestsOf, the program's. No conditions. -/
import Derived.Test.YtlpeigeadjojnaaHdG
import Derived.Test.YtlpeigeadjojnaaHeldIn
import Derived.Maps.GroupsBeside
import Derived.Deep.AppendLies
import Derived.Deep.DeepCutAuto
namespace Go.Proofs.Ytlpeigeadjojnaa
open Go.RowKit Go.Shelf Go.Maps Go.WideElems Go.ChangeShapes
set_option linter.unusedSimpArgs false
set_option linter.unusedVariables false
attribute [local go_sem] Oper.semAt_some

/-- what a list reads as in a map of lists -/
def datI (zs : List Int) : DataW Unit := if zs = [] then .nil else .slice (lits .i64 zs) []
def DatOk (D : DataW Unit) (L : List HthT) : Prop := ∀ h : Int, D.atKey (.int .i64 h) .nil = datI (btF L h)
theorem lits_inj {a b : List Int} (h : lits (H := Unit) .i64 a = lits .i64 b) : a = b :=
  (List.map_inj_right (fun x y hxy => by injection hxy with h1; injection h1)).1 h
theorem dat_is {W : World} {base : Nat} {v : Value} {zs : List Int} {L : List HthT} {h : Int} {D : DataW Unit} (hd : DatOk D L) (hat : D.atKey (.int .i64 h) .nil = rowDatum .i64 v zs) (ho : W.ownsInts base 2 .i64 v zs) : zs = btF L h := by
  rw [hd h] at hat
  unfold datI at hat
  rcases ho.1.2 with ⟨rfl, h0⟩ | ⟨g, cap, cur, rfl, _⟩
  · obtain rfl : zs = [] := List.length_eq_zero_iff.1 h0
    split at hat
    · rename_i e
      exact e.symm
    · simp [rowDatum] at hat
  · split at hat
    · simp [rowDatum] at hat
    · simp only [rowDatum, DataW.slice.injEq, and_true] at hat
      exact (lits_inj hat).symm
theorem dat_put {L : List HthT} {x : HthT} {fr : Int} {D : DataW Unit} {g l c : Nat} (hm : IsMap D) (hd : DatOk D L) (hx : x.2.2.1 = fr) : DatOk (D.put (.int .i64 fr) (rowDatum .i64 (.slice (some ⟨g, 0, none⟩) l c) (btF L fr ++ [x.1]))) (L ++ [x]) := by
  intro h
  by_cases e : h = fr
  · subst e
    rw [atKey_put_same hm (by first | trivial | rfl | simp [WideAt.IsKeyLit]), btF_yes L x h hx]
    unfold datI
    rw [if_neg (by simp)]
    rfl
  · rw [atKey_put_other (by intro q; injection q; contradiction), btF_no L x h (by rw [hx]; exact fun q => e q.symm)]
    exact hd h
theorem groups_map {W : World} {base b n : Nat} {D : DataW Unit} (h : W.ownsGroups Try.prog 2 base 2 .i64 b n D) : IsMap D := by
  obtain ⟨es, clock, _, _, _, rfl, _⟩ := h
  exact ⟨_, rfl⟩
theorem groups_below {w w' : World} {base b n : Nat} {D : DataW Unit} (h : w.ownsGroups Try.prog 2 base 2 .i64 b n D) (hb : Below w.heap.size w w') : w'.ownsGroups Try.prog 2 base 2 .i64 b n D :=
  h.kept (row := none) ⟨hb.os, hb.tape, hb.output, hb.size, fun k hk _ => hb.block k hk⟩ (by simp) (fun es clock _ x _ => by cases x.val.ownBlock <;> simp)
theorem groups_lt {w : World} {base b n : Nat} {D : DataW Unit} (h : w.ownsGroups Try.prog 2 base 2 .i64 b n D) : b < w.heap.size := by
  obtain ⟨es, clock, hb, _⟩ := h
  exact (Array.getElem?_eq_some_iff.1 hb).1
theorem groups_ownF {S : Type} (B base mb : Nat) (f : S → Nat) (Dp : S → DataW Unit → Prop) (hmb : mb < B) : OwnFrom B (fun (s : S) W => ∃ D, W.ownsGroups (H := Unit) Try.prog 2 base 2 .i64 mb (f s) D ∧ Dp s D) := by
  intro s X Y row hs hg hr
  obtain ⟨D, ho, hd⟩ := hs
  refine ⟨D, ho.kept hg (fun e => by have := (hr mb e.symm).1; omega) (fun es clock hb x hx => ?_), hd⟩
  cases hx' : x.val.ownBlock with
  | none => exact .inl rfl
  | some g =>
    refine .inr fun e => ?_
    obtain ⟨_, ob, hob, hc⟩ := hr g e.symm
    obtain ⟨es', clock', hb', F, _⟩ := ho
    obtain ⟨rfl, rfl⟩ : es' = es ∧ clock' = clock := by rw [hb'] at hb; simpa using hb
    obtain ⟨y, hy⟩ := F.reads x hx
    obtain ⟨z, hz, _⟩ := rd_val hy
    obtain ⟨zs, hoi, _⟩ := rowElem_inv hz
    rcases hoi.1.2 with ⟨h1, _⟩ | ⟨g', cap, cur, h1, _, hh, _⟩
    · rw [h1] at hx'
      simp [Value.ownBlock] at hx'
    · rw [h1] at hx'
      simp [Value.ownBlock] at hx'
      subst hx'
      rw [hh] at hob
      cases hob
      cases hc
theorem step_append_inH (w : World) {ops : Array Oper} {o : Oper} {a : Act} {K : Act → World → Prop} {Q : Exit → Act → World → Prop} {E : Prop} (hgd : o.guard = none) (s x : Operand)
    (ho : o.op = .call { callee := .builtin .append, args := #[s, x], argTypes := #[24, 24] }) (B : Nat) (v : Value) (xs : List Int) (hs : a.eval s = v) (h : Ints w B v xs) (G cx : Nat) (y : Int)
    (hx : a.eval x = .slice (some ⟨G, 0, none⟩) 1 cx) (hcell : w.cell? ⟨G, 0, none⟩ = some (.int .i64 y)) (hlen : xs.length ≤ 1000000) (hB : B ≤ w.heap.size)
    (hK : ∀ g cap l w', Ints w' B (.slice (some ⟨g, 0, none⟩) l cap) (xs ++ [y]) → w.grownBy w' v.ownBlock → (v.ownBlock = some g ∨ g = w.heap.size) → K (a.put o.dst (.slice (some ⟨g, 0, none⟩) l cap)) w') :
    if Region.wanted o (yielded ops a.tmps) = true then Oper.wp Try.prog o a w K Q else E := by
  obtain ⟨i0, hi, hz0, hz1, hz2⟩ := info_parts Try.info64
  refine step_append_lies w hgd s x 24 ho B 2 i0 (.int .i64 0) 1 8 Try.underlying24 hi hz0 hz1 hz2 rfl (by decide) v xs.length _ hs h ⟨G, 0, none⟩ 1 cx [.int .i64 y] hx (by simp) ?_ ?_ (by omega) (by unfold maxLen; omega) (by omega) hB w.heap.size rfl ?_
  · intro j u hj
    match j, hj with
    | 0, hj => simp at hj; subst hj; simpa [Addr.add] using hcell
  · intro u hu; simp at hu; subst hu; rfl
  · intro g cap w' h1 h2 h3 _
    refine hK g cap (xs.length + 1) w' ?_ h2 h3
    unfold Ints
    simpa using h1
theorem law64H : Keyed Try.prog 2 := int_keyed Try.underlying2
theorem zeroSlH (w : World) : (zeroValue 24).run Try.prog w = .ok (.slice none 0 0) w := by kernel_rfl

/-- only its normal end is asked for -/
def StillQ (Q : Exit → Act → World → Prop) (e : Exit) (a : Act) (w : World) : Prop := e = .normal ∧ Q e a w
theorem StillQ.no {Q : Exit → Act → World → Prop} {v : Exit} {a : Act} {w : World} {C : Prop} (hv : v ≠ .normal) (h : StillQ Q v a w) : C := (hv h.1).elim
theorem wp_region_calm {P : Program} {id : Nat} {ops : Array Oper} {Q : Exit → Act → World → Prop} {a : Act} {w : World} {S : World → Prop} (hm : P.follows .mixedOrders = true) (hS : S w.drew)
    (h : S w.drew → wpAnyH P .any ops (StillQ Q) S ops.size (Array.replicate ops.size false) a w.drew) : (Code.region id ops true).wp P Q a w :=
  wp_mono (wp_region_held_drew (Q := StillQ Q) hm hS h) fun _ _ _ hq => hq.2

set_option maxRecDepth 100000 in
set_option maxHeartbeats 4000000 in
theorem restsOf_row (va ua : Option Addr) (vc uc : Nat) (B C : Nat) (p o : List Int) (w : World) (h : Ints w B (.slice va p.length vc) p) (k : Ints w C (.slice ua o.length uc) o) (hq : okPO p o = true) (c : Nat) (hc : cntH o = (c : Int)) :
    CallsIn Fence.wide 8 Try.prog 21 #[.slice va p.length vc, .slice ua o.length uc] w fun e w' => ∃ x, e = .returned (.tuple #[x, .int .i64 0]) ∧ Ints w' w.heap.size x (rsL p o c) ∧ Below w.heap.size w w' := by
  have HC := handedOf_any _ _ B C p o w h k
  rw [poC_true hq, hdP_true hq] at HC
  obtain ⟨hp, ho⟩ := okPO_parts hq
  obtain ⟨lp1, lp2⟩ := okPat_len hp
  obtain ⟨ol1, ol2⟩ := okH_len ho
  obtain ⟨c1, c4⟩ := okH_cnt ho
  obtain ⟨cp1, cp2⟩ := cpN_bound hq
  have hlen := thH_len hq
  refine callsIn_of_wp_marks Try.func21 rfl trivial ?_ rfl
  simp only [Try.ntmps21, List.size_toArray, List.length_cons, List.length_nil, Nat.reduceAdd, Nat.reduceSub, Array.replicate_succ, Array.replicate_zero, List.push_toArray, List.append_toArray, List.nil_append, List.cons_append]
  refine wpIn_wide.2 ?_
  have hmm := @run_makeMap Try.prog
  go_wp2_with fail
  refine HC.mono ?_
  rintro e w1 ⟨rfl, b1⟩
  clear HC
  have sz1 := b1.size
  have bH := b1.alloc b1.size (.cells #[.slice va p.length vc, .slice ua o.length uc] 42)
  have qH := Blk.made w1 #[.slice va p.length vc, .slice ua o.length uc] 42
  have bM := bH.alloc bH.size (.map #[] 0)
  have hmb0 : ((w1.alloc (.cells #[.slice va p.length vc, .slice ua o.length uc] 42)).alloc (.map #[] 0)).heap[w1.heap.size + 1]? = some (.map #[] 0) := by
    have := World.alloc_heap_new (w1.alloc (.cells #[.slice va p.length vc, .slice ua o.length uc] 42)) (.map #[] 0)
    rwa [World.size_alloc] at this
  have bC := Blk.made ((w1.alloc (.cells #[.slice va p.length vc, .slice ua o.length uc] 42)).alloc (.map #[] 0)) #[.map (some (w1.heap.size + 1))] 64
  rw [World.size_alloc, World.size_alloc] at bC
  have hB0 := bM.alloc bM.size (.cells #[.map (some (w1.heap.size + 1))] 64)
  have qH0 := (qH.alloc (.map #[] 0)).alloc (.cells #[.map (some (w1.heap.size + 1))] 64)
  have hmb1 : (((w1.alloc (.cells #[.slice va p.length vc, .slice ua o.length uc] 42)).alloc (.map #[] 0)).alloc (.cells #[.map (some (w1.heap.size + 1))] 64)).heap[w1.heap.size + 1]? = some (.map #[] 0) := (Below.heap_alloc _ _ _ (by simp)).trans hmb0
  have sz0 : (((w1.alloc (.cells #[.slice va p.length vc, .slice ua o.length uc] 42)).alloc (.map #[] 0)).alloc (.cells #[.map (some (w1.heap.size + 1))] 64)).heap.size = w1.heap.size + 3 := by simp
  clear bH qH bM hmb0
  go_wp2
  obtain ⟨W0, hW0⟩ : ∃ W0, ((w1.alloc (.cells #[.slice va p.length vc, .slice ua o.length uc] 42)).alloc (.map #[] 0)).alloc (.cells #[.map (some (w1.heap.size + 1))] 64) = W0 := ⟨_, rfl⟩
  rw [hW0] at bC hB0 qH0 hmb1 sz0 ⊢
  clear hW0
  obtain ⟨mb, hmbe⟩ : ∃ mb, w1.heap.size + 1 = mb := ⟨_, rfl⟩
  obtain ⟨b8, hb8e⟩ : ∃ b8, w1.heap.size + 1 + 1 = b8 := ⟨_, rfl⟩
  rw [hmbe] at bC hmb1 ⊢
  rw [← hmbe, hb8e, hmbe] at bC
  rw [← hmbe, hb8e, hmbe]
  obtain ⟨base, hbase⟩ : ∃ base, base = w1.heap.size + 6 := ⟨_, rfl⟩
  have hG0 : W0.ownsGroups (H := Unit) Try.prog 2 base 2 .i64 mb 0 (.map []) := ⟨#[], 0, hmb1, ⟨by simp, MapKept.stamped_empty 0, by simp⟩, Nat.le_refl _, rfl, by omega, by simp, by simp⟩
  refine (wpIn_wide (n := 8)).1 ?_
  refine range_bx (F := Fence.wide) rfl (by omega) (gf := 30) (bs := #[.agg #[.slice va p.length vc, .slice ua o.length uc]]) (lb := #[]) rfl trivial (enters_of Try.func30 (by kernel_rfl) rfl)
    (hdThrows_seq 7 (by omega) _ _ B C p o hq W0) (fun _ => rfl)
    (fun pre W => ((Blk W b8 [.map (some mb)] 64 ∧ Blk W w1.heap.size [.slice va p.length vc, .slice ua o.length uc] 42) ∧ (∃ D, W.ownsGroups (H := Unit) Try.prog 2 base 2 .i64 mb pre.length D ∧ DatOk D (hbL pre))) ∧ Below w.heap.size w W)
    (OwnFrom.and (OwnFrom.and (OwnFrom.and (Own.from (blk_ownH b8 (fun pre : List (HB p o) => [.map (some mb)]) 64) _) (Own.from (blk_ownH w1.heap.size (fun pre : List (HB p o) => [.slice va p.length vc, .slice ua o.length uc]) 42) _)) (groups_ownF _ base mb (fun pre : List (HB p o) => pre.length) (fun pre D => DatOk D (hbL pre)) (by omega))) (ownFrom_below (Nat.le_refl _) (by omega)))
    (fun pre W h' => ⟨h.below h'.2, k.below h'.2⟩)
    ⟨⟨⟨bC, qH0⟩, _, hG0, fun h => rfl⟩, hB0⟩
    (fun x => AxH p o (w1.heap.size + 3) (fun q => { tmps := #[.slice va p.length vc, .slice ua o.length uc, undef, undef, .slice none 0 0, .int .i64 0, .pointer (some ⟨w1.heap.size, 0, none⟩), .int .i64 0, .pointer (some ⟨b8, 0, none⟩), q, undef, undef, .tuple #[.agg #[.slice va p.length vc, .slice ua o.length uc], .int .i64 0], .slice va p.length vc, .slice ua o.length uc, .tuple #[.agg #[.slice va p.length vc, .slice ua o.length uc], .int .i64 0], .agg #[.slice va p.length vc, .slice ua o.length uc], .int .i64 0, .int .i64 0, .bool false, undef, .map (some mb), .agg #[.slice va p.length vc, .slice ua o.length uc], .func (.func 30) #[.agg #[.slice va p.length vc, .slice ua o.length uc]] #[], .agg #[.int .i64 (x.1 : Int), .int .i64 (atL p (x.1 : Int)), .int .i64 (atL o (x.1 : Int)), .int .i64 (atL o ((x.1 : Int) + atL p (x.1 : Int)))], undef, undef, undef, undef, undef, undef, undef, undef, undef, undef, undef, undef, undef, undef, undef, undef, undef, undef, undef, undef, undef, undef, undef, undef, undef, undef, undef, undef, undef, undef, undef, undef], defers := [] }) x)
    (fun x a' => axH_own _ _ (fun x q => { tmps := #[.slice va p.length vc, .slice ua o.length uc, undef, undef, .slice none 0 0, .int .i64 0, .pointer (some ⟨w1.heap.size, 0, none⟩), .int .i64 0, .pointer (some ⟨b8, 0, none⟩), q, undef, undef, .tuple #[.agg #[.slice va p.length vc, .slice ua o.length uc], .int .i64 0], .slice va p.length vc, .slice ua o.length uc, .tuple #[.agg #[.slice va p.length vc, .slice ua o.length uc], .int .i64 0], .agg #[.slice va p.length vc, .slice ua o.length uc], .int .i64 0, .int .i64 0, .bool false, undef, .map (some mb), .agg #[.slice va p.length vc, .slice ua o.length uc], .func (.func 30) #[.agg #[.slice va p.length vc, .slice ua o.length uc]] #[], .agg #[.int .i64 (x.1 : Int), .int .i64 (atL p (x.1 : Int)), .int .i64 (atL o (x.1 : Int)), .int .i64 (atL o ((x.1 : Int) + atL p (x.1 : Int)))], undef, undef, undef, undef, undef, undef, undef, undef, undef, undef, undef, undef, undef, undef, undef, undef, undef, undef, undef, undef, undef, undef, undef, undef, undef, undef, undef, undef, undef, undef, undef, undef], defers := [] }) x a') ?assign ?body ?done
  case assign =>
    rintro l pre x W K ⟨⟨⟨bc, bh⟩, D, hg, hd⟩, hB⟩ hz hK
    rw [sz0] at hz hK
    unfold encH
    have hx := Blk.made W (hthV (hthAt p o x.1)).toArray 37
    have hfin := hK ((fun q => { tmps := #[.slice va p.length vc, .slice ua o.length uc, undef, undef, .slice none 0 0, .int .i64 0, .pointer (some ⟨w1.heap.size, 0, none⟩), .int .i64 0, .pointer (some ⟨b8, 0, none⟩), q, undef, undef, .tuple #[.agg #[.slice va p.length vc, .slice ua o.length uc], .int .i64 0], .slice va p.length vc, .slice ua o.length uc, .tuple #[.agg #[.slice va p.length vc, .slice ua o.length uc], .int .i64 0], .agg #[.slice va p.length vc, .slice ua o.length uc], .int .i64 0, .int .i64 0, .bool false, undef, .map (some mb), .agg #[.slice va p.length vc, .slice ua o.length uc], .func (.func 30) #[.agg #[.slice va p.length vc, .slice ua o.length uc]] #[], .agg #[.int .i64 (x.1 : Int), .int .i64 (atL p (x.1 : Int)), .int .i64 (atL o (x.1 : Int)), .int .i64 (atL o ((x.1 : Int) + atL p (x.1 : Int)))], undef, undef, undef, undef, undef, undef, undef, undef, undef, undef, undef, undef, undef, undef, undef, undef, undef, undef, undef, undef, undef, undef, undef, undef, undef, undef, undef, undef, undef, undef, undef, undef], defers := [] }) (.pointer (some ⟨W.heap.size, 0, none⟩))) (W.alloc (.cells (hthV (hthAt p o x.1)).toArray 37))
      ((KeepsOthers.alloc _ _).from _) ⟨⟨⟨bc.alloc _, bh.alloc _⟩, D, groups_below hg ((Below.refl _ _).alloc (Nat.le_refl _) _), hd⟩, hB.alloc hB.size _⟩ ⟨W.heap.size, by omega, hx, rfl⟩ (by simp) (Below.heap_alloc _ _ _ (by omega))
    clear hK hx
    gi_wp2
    exact hfin
  case body =>
    rintro l pre x a' W hz ⟨⟨⟨bc, bh⟩, D, hg, hd⟩, hB⟩ ⟨bx, hbx, hxb, rfl⟩ hlt
    rw [sz0] at hz
    obtain ⟨y, hy⟩ : ∃ y : Int, (x.1 : Int) = y := ⟨_, rfl⟩
    obtain ⟨fr, hfr⟩ : ∃ fr, atL o (x.1 : Int) = fr := ⟨_, rfl⟩
    have hr := atO_rng ho (x.1 : Int)
    have hkey : keyOf Try.prog 2 (.int .i64 fr) = some (.int .i64 fr) := Maps.keyOf_int_mk Try.underlying2 (WalkArith.wf_i64 (by omega))
    have c0 := hxb.cell 0
    have c2 := hxb.cell 2
    have d0 := bc.cell 0
    simp only [hthV, List.getElem?_cons_zero, List.getElem?_cons_succ] at c0 c2 d0
    have e0 : (hthAt p o x.1).1 = y := hy
    have e2 : (hthAt p o x.1).2.2.1 = fr := hfr
    rw [e0] at c0
    rw [e2] at c2
    have hyw : (Lit.int .i64 y).wf = true := WalkArith.wf_i64 (by have := x.2.1; omega)
    have bD : Below W.heap.size W W.drew := (Below.refl _ _).drew
    have bA : Below W.heap.size W (W.drew.alloc (.cells #[.int .i64 y] 2)) := bD.alloc (Nat.le_refl _) _
    obtain ⟨v1, zs1, hlk1, hat1, hoi1, hzl1, hbk1⟩ := World.ownsGroups.at (groups_below hg bD) law64H Try.underlying64 (zeroSlH _) (by unfold maxLen; omega) hkey
    obtain ⟨v2, zs2, hlk2, hat2, hoi2, hzl2, hbk2⟩ := World.ownsGroups.at (groups_below hg bA) law64H Try.underlying64 (zeroSlH _) (by unfold maxLen; omega) hkey
    have hz1 := dat_is hd hat1 hoi1
    have hlk3 : (Instr.lookup 64 (.map (some mb)) (.int .i64 fr) false).run Try.prog (W.alloc (.cells #[.int .i64 y] 2)).drew = .ok v2 (W.alloc (.cells #[.int .i64 y] 2)).drew := hlk2
    have hz2 := dat_is hd hat2 hoi2
    have hmbW := groups_lt hg
    have HF := Lib.hid (fun (A : World) (v : Value) (zs : List Int) (hA : Below W.heap.size W A) (hoi : A.ownsInts base 2 .i64 v zs) (hzs : zs = btF (hbL pre) fr) (hzl : zs.length ≤ pre.length) (hbk : A.groupBack (H := Unit) Try.prog 64 2 base 2 .i64 mb pre.length D (.int .i64 fr) (.int .i64 fr) v) (X : World) (hXA : Below A.heap.size A X) (g4 c4 l4 : Nat) (w4 : World)
        (i4 : Ints w4 base (.slice (some ⟨g4, 0, none⟩) l4 c4) (zs ++ [y])) (gr4 : X.grownBy w4 v.ownBlock) (at4 : v.ownBlock = some g4 ∨ g4 = X.heap.size) => show ∃ w5, (Instr.mapUpdate 64 (.map (some mb)) (.int .i64 fr) (.slice (some ⟨g4, 0, none⟩) l4 c4)).run Try.prog w4 = .ok () w5 ∧
          (w4.cell? ⟨b8, 0, none⟩ = some (.map (some mb)) ∧ w4.cell? ⟨bx, 2, none⟩ = some (.int .i64 fr) ∧ w4.cell? ⟨bx, 0, none⟩ = some (.int .i64 y)) ∧
          (w5.cell? ⟨b8, 0, none⟩ = some (.map (some mb)) ∧ w5.cell? ⟨bx, 2, none⟩ = some (.int .i64 fr) ∧ w5.cell? ⟨bx, 0, none⟩ = some (.int .i64 y)) ∧
          ∀ a3 : Act, endBx W0.heap.size (fun (pre : List (HB p o)) W => ((Blk W b8 [.map (some mb)] 64 ∧ Blk W w1.heap.size [.slice va p.length vc, .slice ua o.length uc] 42) ∧ (∃ D, W.ownsGroups (H := Unit) Try.prog 2 base 2 .i64 mb pre.length D ∧ DatOk D (hbL pre))) ∧ Below w.heap.size w W) (pre ++ [x]) W .normal a3 w5 from by
      have hvb : ∀ q, v.ownBlock = some q → base ≤ q := fun q hq => (hoi.1.lt q hq).1
      have hvc : ∀ q ob, v.ownBlock = some q → A.heap[q]? = some ob → ∃ cs, ob = .cells cs 2 := fun q ob hq hob => by
        rcases hoi.1.2 with ⟨h1, _⟩ | ⟨g', cap, cur, h1, _, hh, _⟩
        · rw [h1] at hq
          simp [Value.ownBlock] at hq
        · rw [h1] at hq
          simp [Value.ownBlock] at hq
          subst hq
          rw [hh] at hob
          cases hob
          exact ⟨_, rfl⟩
      have hsA := hA.size
      have hsX := hXA.size
      have hs4 := gr4.size
      have hsame4 : ∀ q, q < W.heap.size → some q ≠ v.ownBlock → w4.heap[q]? = W.heap[q]? := fun q hq hne => ((gr4.block q (by omega) hne).trans (hXA.block q (by omega))).trans (hA.block q hq)
      have hgrA : A.grownBy w4 v.ownBlock := ⟨gr4.os.trans hXA.os, gr4.tape.trans hXA.tape, gr4.output.trans hXA.output, by omega, fun q hq hne => (gr4.block q (by omega) hne).trans (hXA.block q hq)⟩
      obtain ⟨w5, hrun, hown5, gr5⟩ := hbk w4 (.slice (some ⟨g4, 0, none⟩) l4 c4) (zs ++ [y]) hgrA ⟨i4, fun z hzz => by
        rcases List.mem_append.1 hzz with h1 | h1
        · exact hoi.2 z h1
        · rw [List.mem_singleton.1 h1]; exact hyw⟩ (by simp; omega) (by
        rcases at4 with e | e
        · exact .inl (by rw [e]; rfl)
        · exact .inr ⟨g4, rfl, by omega⟩)
      have hs5 := gr5.size
      have n8 : some b8 ≠ v.ownBlock := fun e => by have := hvb b8 e.symm; omega
      have nh : some w1.heap.size ≠ v.ownBlock := fun e => by have := hvb _ e.symm; omega
      have nx : some bx ≠ v.ownBlock := fun e => by
        obtain ⟨cs, hcs⟩ := hvc bx _ e.symm ((hA.block bx hxb.lt).trans hxb)
        simp at hcs
      have bc4 : Blk w4 b8 [.map (some mb)] 64 := bc.block (hsame4 b8 bc.lt n8)
      have bh4 : Blk w4 w1.heap.size [.slice va p.length vc, .slice ua o.length uc] 42 := bh.block (hsame4 _ bh.lt nh)
      have bx4 := hxb.block (hsame4 bx hxb.lt nx)
      have bc5 := bc4.block (gr5.block b8 bc4.lt (by intro e; cases e; omega))
      have bh5 := bh4.block (gr5.block w1.heap.size bh4.lt (by intro e; cases e; omega))
      have bx5 := bx4.block (gr5.block bx bx4.lt (by intro e; cases e; omega))
      have x40 := bx4.cell 0
      have x42 := bx4.cell 2
      have x50 := bx5.cell 0
      have x52 := bx5.cell 2
      have y4 := bc4.cell 0
      have y5 := bc5.cell 0
      simp only [hthV, List.getElem?_cons_zero, List.getElem?_cons_succ] at x40 x42 x50 x52 y4 y5
      rw [e0] at x40 x50
      rw [e2] at x42 x52
      refine ⟨w5, hrun, ⟨y4, x42, x40⟩, ⟨y5, x52, x50⟩, fun a3 => ⟨⟨by omega, fun q ob hq hob hcb => ?_⟩, ⟨⟨⟨bc5, bh5⟩, _, by simpa using hown5, ?_⟩, ?_⟩, ?_⟩⟩
      · have hlt := (Array.getElem?_eq_some_iff.1 hob).1
        refine (gr5.block q (by omega) (by intro e; cases e; omega)).trans ((hsame4 q hlt fun e => ?_).trans hob)
        obtain ⟨cs, hcs⟩ := hvc q ob e.symm ((hA.block q hlt).trans hob)
        rw [hcs] at hcb
        cases hcb
      · rw [hbL_snoc, hzs, ← e0]
        exact dat_put (groups_map hg) hd e2
      · refine ⟨gr5.os.trans (gr4.os.trans (hXA.os.trans (hA.os.trans hB.os))), gr5.tape.trans (gr4.tape.trans (hXA.tape.trans (hA.tape.trans hB.tape))), gr5.output.trans (gr4.output.trans (hXA.output.trans (hA.output.trans hB.output))), by have := hB.size; omega, fun q hq => ?_⟩
        have hBs := hB.size
        exact (gr5.block q (by omega) (by intro e; cases e; omega)).trans ((hsame4 q (by omega) (fun e => by have := hvb q e.symm; omega)).trans (hB.block q hq))
      · rw [sz0]
        exact (gr5.block _ (by omega) (by intro e; cases e; omega)).trans (hsame4 _ (by omega) (fun e => by have := hvb _ e.symm; omega)))
    have HF1 := Lib.hid (HF.out W.drew v1 zs1 bD hoi1 hz1 hzl1 hbk1 (W.drew.alloc (.cells #[.int .i64 y] 2)) ((Below.refl _ _).alloc (Nat.le_refl _) _))
    have HF2 := Lib.hid (HF.out (W.drew.alloc (.cells #[.int .i64 y] 2)) v2 zs2 bA hoi2 hz2 hzl2 hbk2 (W.drew.alloc (.cells #[.int .i64 y] 2)) (Below.refl _ _))
    have HOWN1 := Lib.hid (World.ownsInts.alloc hoi1 (.cells #[.int .i64 y] 2))
    have HOWN2 := Lib.hid hoi2
    have HLN1 : Hid (zs1.length ≤ 1000000) := Lib.hid (by omega)
    have HLN2 : Hid (zs2.length ≤ 1000000) := Lib.hid (by omega)
    have HBS : Hid (base ≤ (W.drew.alloc (.cells #[.int .i64 y] 2)).heap.size) := Lib.hid (by have := bA.size; omega)
    have HNW : Hid ((W.drew.alloc (.cells #[.int .i64 y] 2)).cell? ⟨W.heap.size, 0, none⟩ = some (.int .i64 y)) := Lib.hid ((Blk.made W.drew #[.int .i64 y] 2).cell 0)
    have HSA : Hid ((W.drew.alloc (.cells #[.int .i64 y] 2)).cell? ⟨b8, 0, none⟩ = some (.map (some mb)) ∧ (W.drew.alloc (.cells #[.int .i64 y] 2)).cell? ⟨bx, 2, none⟩ = some (.int .i64 fr) ∧ (W.drew.alloc (.cells #[.int .i64 y] 2)).cell? ⟨bx, 0, none⟩ = some (.int .i64 y)) := Lib.hid (by
      refine ⟨(bA.cell (p := ⟨b8, 0, none⟩) bc.lt).trans d0, (bA.cell (p := ⟨bx, 2, none⟩) hxb.lt).trans c2, (bA.cell (p := ⟨bx, 0, none⟩) hxb.lt).trans c0⟩)
    clear h k HF hbk1 hbk2 hoi1 hoi2 hat1 hat2 hz1 hz2 hzl1 hzl2 hg hd bA bD hB bc bh bC hB0 qH0 hG0 hr hlt hmb1
    refine wpIn_block ?_
    refine wpIn_region_heldR (S := (fun W' => W'.cell? ⟨b8, 0, none⟩ = some (.map (some mb)) ∧ W'.cell? ⟨bx, 2, none⟩ = some (.int .i64 fr) ∧ W'.cell? ⟨bx, 0, none⟩ = some (.int .i64 y))) (by kernel_rfl) (by kernel_rfl) ?_ (fun hHeld => ?_)
    · (try dsimp only); exact ⟨d0, c2, c0⟩
    refine wpAnyH_take (i := 0) (oi := { dst := some 25, op := Go.Op.load 64 (Go.Operand.tmp 8), type := 64, pos := "l14_hands.go:188", after := #[], guard := none }) (v := ?_) rfl (by kernel_rfl) (by kernel_rfl) (by kernel_rfl) (fun _ _ _ h => h) (Or.inl ⟨by rfl, ?_⟩) (by assumption) ?_
    rotate_left
    · (intro w hSw; (try dsimp only at hSw); go_simp); (try with_reducible rfl)
    try simp only [Act.put, List.setIfInBounds_toArray, List.set_cons_zero, List.set_cons_succ]
    refine wpAnyH_take (i := 1) (oi := { dst := some 26, op := Go.Op.fieldAddr 37 (Go.Operand.tmp 9) 2, type := 0, pos := "l14_hands.go:188", after := #[], guard := none }) (v := ?_) rfl (by kernel_rfl) (by kernel_rfl) (by kernel_rfl) (fun _ _ _ h => h) (Or.inl ⟨by rfl, ?_⟩) (by assumption) ?_
    rotate_left
    · (intro w hSw; (try dsimp only at hSw); go_simp); (try with_reducible rfl)
    try simp only [Act.put, List.setIfInBounds_toArray, List.set_cons_zero, List.set_cons_succ]
    refine wpAnyH_take (i := 2) (oi := { dst := some 27, op := Go.Op.load 2 (Go.Operand.tmp 26), type := 2, pos := "l14_hands.go:188", after := #[{ on := 1, ground := Go.Ground.data }], guard := none }) (v := ?_) rfl (by kernel_rfl) (by kernel_rfl) (by kernel_rfl) (fun _ _ _ h => h) (Or.inl ⟨by rfl, ?_⟩) (by assumption) ?_
    rotate_left
    · (intro w hSw; (try dsimp only at hSw); go_simp); (try with_reducible rfl)
    try simp only [Act.put, List.setIfInBounds_toArray, List.set_cons_zero, List.set_cons_succ]
    refine wpAnyH_take (i := 3) (oi := { dst := some 28, op := Go.Op.load 64 (Go.Operand.tmp 8), type := 64, pos := "l14_hands.go:188", after := #[], guard := none }) (v := ?_) rfl (by kernel_rfl) (by kernel_rfl) (by kernel_rfl) (fun _ _ _ h => h) (Or.inl ⟨by rfl, ?_⟩) (by assumption) ?_
    rotate_left
    · (intro w hSw; (try dsimp only at hSw); go_simp); (try with_reducible rfl)
    try simp only [Act.put, List.setIfInBounds_toArray, List.set_cons_zero, List.set_cons_succ]
    refine wpAnyH_take (i := 4) (oi := { dst := some 29, op := Go.Op.fieldAddr 37 (Go.Operand.tmp 9) 2, type := 0, pos := "l14_hands.go:188", after := #[], guard := none }) (v := ?_) rfl (by kernel_rfl) (by kernel_rfl) (by kernel_rfl) (fun _ _ _ h => h) (Or.inl ⟨by rfl, ?_⟩) (by assumption) ?_
    rotate_left
    · (intro w hSw; (try dsimp only at hSw); go_simp); (try with_reducible rfl)
    try simp only [Act.put, List.setIfInBounds_toArray, List.set_cons_zero, List.set_cons_succ]
    refine wpAnyH_take (i := 5) (oi := { dst := some 30, op := Go.Op.load 2 (Go.Operand.tmp 29), type := 2, pos := "l14_hands.go:188", after := #[{ on := 4, ground := Go.Ground.data }], guard := none }) (v := ?_) rfl (by kernel_rfl) (by kernel_rfl) (by kernel_rfl) (fun _ _ _ h => h) (Or.inl ⟨by rfl, ?_⟩) (by assumption) ?_
    rotate_left
    · (intro w hSw; (try dsimp only at hSw); go_simp); (try with_reducible rfl)
    try simp only [Act.put, List.setIfInBounds_toArray, List.set_cons_zero, List.set_cons_succ]
    refine wpAnyH_take (i := 7) (oi := { dst := some 32, op := Go.Op.fieldAddr 37 (Go.Operand.tmp 9) 0, type := 0, pos := "l14_hands.go:188", after := #[], guard := none }) (v := ?_) rfl (by kernel_rfl) (by kernel_rfl) (by kernel_rfl) (fun _ _ _ h => h) (Or.inl ⟨by rfl, ?_⟩) (by assumption) ?_
    rotate_left
    · (intro w hSw; (try dsimp only at hSw); go_simp); (try with_reducible rfl)
    try simp only [Act.put, List.setIfInBounds_toArray, List.set_cons_zero, List.set_cons_succ]
    refine wpAnyH_take (i := 8) (oi := { dst := some 33, op := Go.Op.load 2 (Go.Operand.tmp 32), type := 2, pos := "l14_hands.go:188", after := #[{ on := 7, ground := Go.Ground.data }], guard := none }) (v := ?_) rfl (by kernel_rfl) (by kernel_rfl) (by kernel_rfl) (fun _ _ _ h => h) (Or.inl ⟨by rfl, ?_⟩) (by assumption) ?_
    rotate_left
    · (intro w hSw; (try dsimp only at hSw); go_simp); (try with_reducible rfl)
    try simp only [Act.put, List.setIfInBounds_toArray, List.set_cons_zero, List.set_cons_succ]
    refine wpAnyH_ready (rs := [6, 9]) (by kernel_rfl) (by simp) ?_
    refine AllReadyH.cons (o := { dst := some 31, op := Go.Op.lookup 64 (Go.Operand.tmp 28) (Go.Operand.tmp 30) false, type := 24, pos := "l14_hands.go:188", after := #[{ on := 3, ground := Go.Ground.data }, { on := 5, ground := Go.Ground.data }], guard := none }) rfl (fun K hK => ?_) ?_
    · go_simp
      refine hK.out _ _ ?_ (fun hHeld2 => ?_)
      · (try dsimp only); exact ⟨d0, c2, c0⟩
      clear hK K hHeld
      have hHeld := hHeld2
      clear hHeld2
      try simp only [Act.put, List.setIfInBounds_toArray, List.set_cons_zero, List.set_cons_succ]
      refine wpAnyH_ready (rs := [9]) (by kernel_rfl) (by simp) ?_
      refine AllReadyH.cons (o := { dst := some 34, op := Go.Op.buildSlice 24 1 #[(0, Go.Operand.tmp 33)], type := 24, pos := "l14_hands.go:188", after := #[{ on := 8, ground := Go.Ground.data }], guard := none }) rfl (fun K hK => ?_) AllReadyH.nil
      go_simp
      refine hK.out _ _ ?_ (fun hHeld2 => ?_)
      · (try dsimp only); exact HSA.out
      clear hK K hHeld
      have hHeld := hHeld2
      clear hHeld2
      try simp only [Act.put, List.setIfInBounds_toArray, List.set_cons_zero, List.set_cons_succ]
      refine wpAnyH_ready (rs := [10]) (by kernel_rfl) (by simp) ?_
      refine AllReadyH.cons (o := { dst := some 35, op := Go.Op.call { callee := Go.Callee.builtin Go.Builtin.append, args := #[Go.Operand.tmp 31, Go.Operand.tmp 34], argTypes := #[24, 24] }, type := 24, pos := "l14_hands.go:188", after := #[{ on := 6, ground := Go.Ground.data }, { on := 9, ground := Go.Ground.data }], guard := none }) rfl (fun K hK => ?_) AllReadyH.nil
      (refine step_append_inH _ (by rfl) _ _ (by rfl) base v1 _ (by rfl) (HOWN1.out).1 W.heap.size 1 y (by rfl) HNW.out (HLN1.out) (HBS.out) ?_; intro g4 c4 l4 w4 i4 gr4 at4; obtain ⟨w5, hrun5, hS4, hS5, hfin⟩ := HF1.out g4 c4 l4 w4 i4 gr4 at4)
      refine hK.out _ _ ?_ (fun hHeld2 => ?_)
      · (try dsimp only); exact hS4
      clear hK K hHeld
      have hHeld := hHeld2
      clear hHeld2
      try simp only [Act.put, List.setIfInBounds_toArray, List.set_cons_zero, List.set_cons_succ]
      refine wpAnyH_ready (rs := [11]) (by kernel_rfl) (by simp) ?_
      refine AllReadyH.cons (o := { dst := none, op := Go.Op.mapUpdate 64 (Go.Operand.tmp 25) (Go.Operand.tmp 27) (Go.Operand.tmp 35), type := 0, pos := "l14_hands.go:188", after := #[{ on := 0, ground := Go.Ground.data }, { on := 2, ground := Go.Ground.data }, { on := 10, ground := Go.Ground.data }, { on := 10, ground := Go.Ground.chain }, { on := 0, ground := Go.Ground.phase }, { on := 1, ground := Go.Ground.phase }, { on := 2, ground := Go.Ground.phase }, { on := 3, ground := Go.Ground.phase }, { on := 4, ground := Go.Ground.phase }, { on := 5, ground := Go.Ground.phase }, { on := 6, ground := Go.Ground.phase }, { on := 7, ground := Go.Ground.phase }, { on := 8, ground := Go.Ground.phase }, { on := 9, ground := Go.Ground.phase }, { on := 10, ground := Go.Ground.phase }], guard := none }) rfl (fun K hK => ?_) AllReadyH.nil
      go_simp
      refine hK.out _ _ ?_ (fun hHeld2 => ?_)
      · (try dsimp only); exact hS5
      clear hK K hHeld
      have hHeld := hHeld2
      clear hHeld2
      try simp only [Act.put, List.setIfInBounds_toArray, List.set_cons_zero, List.set_cons_succ]
      refine wpAnyH_done (by kernel_rfl) (Calm.ok ?_) _
      first | exact hfin _ | (gi_wp2; exact hfin _)
    refine AllReadyH.cons (o := { dst := some 34, op := Go.Op.buildSlice 24 1 #[(0, Go.Operand.tmp 33)], type := 24, pos := "l14_hands.go:188", after := #[{ on := 8, ground := Go.Ground.data }], guard := none }) rfl (fun K hK => ?_) ?_
    · go_simp
      refine hK.out _ _ ?_ (fun hHeld2 => ?_)
      · (try dsimp only); exact HSA.out
      clear hK K hHeld
      have hHeld := hHeld2
      clear hHeld2
      try simp only [Act.put, List.setIfInBounds_toArray, List.set_cons_zero, List.set_cons_succ]
      refine wpAnyH_ready (rs := [6]) (by kernel_rfl) (by simp) ?_
      refine AllReadyH.cons (o := { dst := some 31, op := Go.Op.lookup 64 (Go.Operand.tmp 28) (Go.Operand.tmp 30) false, type := 24, pos := "l14_hands.go:188", after := #[{ on := 3, ground := Go.Ground.data }, { on := 5, ground := Go.Ground.data }], guard := none }) rfl (fun K hK => ?_) AllReadyH.nil
      go_simp
      refine hK.out _ _ ?_ (fun hHeld2 => ?_)
      · (try dsimp only); exact HSA.out
      clear hK K hHeld
      have hHeld := hHeld2
      clear hHeld2
      try simp only [Act.put, List.setIfInBounds_toArray, List.set_cons_zero, List.set_cons_succ]
      refine wpAnyH_ready (rs := [10]) (by kernel_rfl) (by simp) ?_
      refine AllReadyH.cons (o := { dst := some 35, op := Go.Op.call { callee := Go.Callee.builtin Go.Builtin.append, args := #[Go.Operand.tmp 31, Go.Operand.tmp 34], argTypes := #[24, 24] }, type := 24, pos := "l14_hands.go:188", after := #[{ on := 6, ground := Go.Ground.data }, { on := 9, ground := Go.Ground.data }], guard := none }) rfl (fun K hK => ?_) AllReadyH.nil
      (refine step_append_inH _ (by rfl) _ _ (by rfl) base v2 _ (by rfl) (HOWN2.out).1 W.heap.size 1 y (by rfl) HNW.out (HLN2.out) (HBS.out) ?_; intro g4 c4 l4 w4 i4 gr4 at4; obtain ⟨w5, hrun5, hS4, hS5, hfin⟩ := HF2.out g4 c4 l4 w4 i4 gr4 at4)
      refine hK.out _ _ ?_ (fun hHeld2 => ?_)
      · (try dsimp only); exact hS4
      clear hK K hHeld
      have hHeld := hHeld2
      clear hHeld2
      try simp only [Act.put, List.setIfInBounds_toArray, List.set_cons_zero, List.set_cons_succ]
      refine wpAnyH_ready (rs := [11]) (by kernel_rfl) (by simp) ?_
      refine AllReadyH.cons (o := { dst := none, op := Go.Op.mapUpdate 64 (Go.Operand.tmp 25) (Go.Operand.tmp 27) (Go.Operand.tmp 35), type := 0, pos := "l14_hands.go:188", after := #[{ on := 0, ground := Go.Ground.data }, { on := 2, ground := Go.Ground.data }, { on := 10, ground := Go.Ground.data }, { on := 10, ground := Go.Ground.chain }, { on := 0, ground := Go.Ground.phase }, { on := 1, ground := Go.Ground.phase }, { on := 2, ground := Go.Ground.phase }, { on := 3, ground := Go.Ground.phase }, { on := 4, ground := Go.Ground.phase }, { on := 5, ground := Go.Ground.phase }, { on := 6, ground := Go.Ground.phase }, { on := 7, ground := Go.Ground.phase }, { on := 8, ground := Go.Ground.phase }, { on := 9, ground := Go.Ground.phase }, { on := 10, ground := Go.Ground.phase }], guard := none }) rfl (fun K hK => ?_) AllReadyH.nil
      go_simp
      refine hK.out _ _ ?_ (fun hHeld2 => ?_)
      · (try dsimp only); exact hS5
      clear hK K hHeld
      have hHeld := hHeld2
      clear hHeld2
      try simp only [Act.put, List.setIfInBounds_toArray, List.set_cons_zero, List.set_cons_succ]
      refine wpAnyH_done (by kernel_rfl) (Calm.ok ?_) _
      first | exact hfin _ | (gi_wp2; exact hfin _)
    exact AllReadyH.nil
  case done =>
    rintro D ys W hD hS ⟨⟨⟨bc, bh⟩, Dm, hg, hd⟩, hB⟩ hK
    have hyl : ys.length = (thH p o).length := by rw [← hS, hbL_len]
    rw [hS] at hd
    have hBs := hB.size
    obtain ⟨i0, hi0, hz0, hz1, hz2⟩ := info_parts Try.info64
    have hWk : ∀ W', Below W.heap.size W W' → Below w.heap.size w W' := fun W' h' => hB.trans (h'.mono hBs)
    have HH : ∀ W', Below W.heap.size W W' → Calls Try.prog 54 #[.slice ua o.length uc] W' fun e w' => e = .returned (.int .i64 (c : Int)) ∧ W' = w' := fun W' hW => by
      have := hands_any _ C o W' (k.below (hWk W' hW)) (okH_parts ho).2.1 ol1 ol2
      rw [hc] at this
      exact this
    have HP := Lib.hid (fun W' (hW : Below W.heap.size W W') => commonPeriodH_any (.slice va p.length vc) (.slice ua o.length uc) B C p o W' (h.below (hWk W' hW)) (k.below (hWk W' hW)) lp1 lp2 ol1 ol2)
    have HLK := Lib.hid (fun (W' : World) (hW : Below W.heap.size W W') (i : Nat) (hi : i < 1000) => show ∃ v, (Instr.lookup 64 (.map (some mb)) (.int .i64 (i : Int)) false).run Try.prog W' = .ok v W' ∧ Ints W' base v (btF (thH p o) (i : Int)) from by
      have hkey : keyOf Try.prog 2 (.int .i64 (i : Int)) = some (.int .i64 (i : Int)) := Maps.keyOf_int_mk Try.underlying2 (WalkArith.wf_i64 (by omega))
      obtain ⟨v1, zs1, hlk1, hat1, hoi1, hzl1, hbk1⟩ := World.ownsGroups.at (groups_below hg hW) law64H Try.underlying64 (zeroSlH _) (by unfold maxLen; omega) hkey
      have hz1 := dat_is hd hat1 hoi1
      subst hz1
      exact ⟨v1, hlk1, hoi1.1⟩)
    have HGG := Lib.hid (fun (W' : World) (v : Value) (i : Nat) (hv : Ints W' base v (btF (thH p o) (i : Int))) => greatestGap_any v base (btF (thH p o) (i : Int)) (cpN p o : Nat) W' hv (by have := btF_len (thH p o) (i : Int); omega) (btF_in _) (by omega) (by omega))
    have d0 := bc.cell 0
    have h0 := bh.cell 0
    have h1 := bh.cell 1
    simp only [List.getElem?_cons_zero, List.getElem?_cons_succ] at d0 h0 h1
    have HC0 := Lib.hid (fun (W' : World) (hW : Below W.heap.size W W') => show (W'.cell? ⟨b8, 0, none⟩ = some (.map (some mb)) ∧ W'.cell? ⟨w1.heap.size, 0, none⟩ = some (.slice va p.length vc) ∧ W'.cell? ⟨w1.heap.size, 1, none⟩ = some (.slice ua o.length uc)) from ⟨(hW.cell (p := ⟨b8, 0, none⟩) bc.lt).trans d0, (hW.cell (p := ⟨w1.heap.size, 0, none⟩) bh.lt).trans h0, (hW.cell (p := ⟨w1.heap.size, 1, none⟩) bh.lt).trans h1⟩)
    have hb8 := bc.lt
    have hbh := bh.lt
    have HHH := HH W (Below.refl _ _)
    have HK := Lib.hid (fun (W' : World) (hW : Below W.heap.size W W') => (hW.block D (Array.getElem?_eq_some_iff.1 hK).1).trans hK)
    have HWK := Lib.hid hWk
    clear hWk
    clear h k bC hB0 qH0 hG0 hmb1 b1 bc bh hg hd
    go_wp2_with fail
    refine HHH.mono ?_
    rintro e w2 ⟨rfl, rfl⟩
    clear HHH
    go_wp2_with (at_make; refine wpList_make_full _ rfl _ _ 24 rfl W.heap.size 2 i0 (.int .i64 0) 1 Try.underlying24 hi0 hz0 hz1 _ _ _ _ c rfl rfl rfl rfl (by rw [hz2]; omega) (by unfold maxLen; omega) (Nat.le_refl _) ?_; intro w3 hown hgr; refine Hid.out ?_)
    have hI := made_ints hown
    rw [show List.replicate c (0 : Int) = fillK (rsL p o c) 0 from by rw [fillK_zero, rsL_len]] at hI
    have b3 : Below W.heap.size W w3 := (Below.refl _ _).grown hgr (Nat.le_refl _) (by simp)
    obtain ⟨d30, h30, h31⟩ := HC0.out w3 b3
    have HHH := HH w3 b3
    clear hown hgr hi0 hz0 hz1 hz2 HH d0 h0 h1
    refine Lib.hid ?_
    go_wp2_with fail
    refine HHH.mono ?_
    rintro e w2 ⟨rfl, rfl⟩
    clear HHH
    go_wp2
    go_loopw [11, 43] (fun _ i wr => ∃ k : Nat, k ≤ c ∧ i = .int .i64 k ∧ Ints wr W.heap.size (.slice (some ⟨W.heap.size, 0, none⟩) c c) (fillK (rsL p o c) k) ∧ Below W.heap.size W wr) (fun _ i _ => c - (intOf i).toNat)
    case atStart => exact ⟨0, Nat.zero_le _, rfl, hI, b3⟩
    case round =>
      obtain ⟨i, hi, rfl, hIr, hb⟩ := hrel
      clear hI b3 d30 h30 h31
      by_cases hlt : i < c
      · have hbs := hb.size
        have bD : Below wr.heap.size wr wr.drew := (Below.refl _ _).drew
        have HBT := Lib.hid (fun (w5 : World) (b5 : Below wr.drew.heap.size wr.drew w5) => show Below W.heap.size W w5 from hb.trans ((bD.trans b5).mono hbs))
        have HI5 := Lib.hid (fun (w5 : World) (b5 : Below wr.drew.heap.size wr.drew w5) => show Ints w5 W.heap.size (.slice (some ⟨W.heap.size, 0, none⟩) c c) (fillK (rsL p o c) i) from hIr.below (bD.trans b5))
        have HSX := Lib.hid (fun (w5 : World) (b5 : Below wr.drew.heap.size wr.drew w5) => show (w5.cell? ⟨b8, 0, none⟩ = some (.map (some mb)) ∧ w5.cell? ⟨w1.heap.size, 0, none⟩ = some (.slice va p.length vc) ∧ w5.cell? ⟨w1.heap.size, 1, none⟩ = some (.slice ua o.length uc)) from HC0.out w5 (HBT.out w5 b5))
        have HSD0 := Lib.hid (HC0.out wr hb)
        have HSD := Lib.hid (HSX.out wr.drew (Below.refl _ _))
        have HP1 := Lib.hid (HP.out wr.drew (HBT.out wr.drew (Below.refl _ _)))
        obtain ⟨v1, hlk1, hv1⟩ := HLK.out wr.drew (HBT.out wr.drew (Below.refl _ _)) i (by omega)
        have hfl : (fillK (rsL p o c) i).length = c := by rw [fillK_len _ (by rw [rsL_len]; exact hi), rsL_len]
        have HOLD := Lib.hid (fun (w5 : World) (b5 : Below wr.drew.heap.size wr.drew w5) => (HI5.out w5 b5).cell i (by rw [hfl]; exact hlt))
        have HFREE := Lib.hid (fun (w5 : World) (b5 : Below wr.drew.heap.size wr.drew w5) => (HI5.out w5 b5).free i)
        have HSET := Lib.hid (fun (w5 : World) (b5 : Below wr.drew.heap.size wr.drew w5) => show Ints (w5.setCell ⟨W.heap.size, i, none⟩ (.int .i64 (restG (btF (thH p o) (i : Int)) (cpN p o : Nat)))) W.heap.size (.slice (some ⟨W.heap.size, 0, none⟩) c c) (fillK (rsL p o c) (i + 1)) from by
          have hs := (HI5.out w5 b5).set i (restG (btF (thH p o) (i : Int)) (cpN p o : Nat))
          have e : (fillK (rsL p o c) i).set i (restG (btF (thH p o) (i : Int)) (cpN p o : Nat)) = fillK (rsL p o c) (i + 1) := by
            rw [← rsL_at p o c i hlt]
            exact fillK_set _ (by rw [rsL_len]; exact hlt)
          rw [e] at hs
          exact hs)
        have HBF := Lib.hid (fun (w5 : World) (b5 : Below wr.drew.heap.size wr.drew w5) => show Below W.heap.size W (w5.setCell ⟨W.heap.size, i, none⟩ (.int .i64 (restG (btF (thH p o) (i : Int)) (cpN p o : Nat)))) from (HBT.out w5 b5).setCell (Nat.le_refl _) _)
        have HSS := Lib.hid (fun (w5 : World) (b5 : Below wr.drew.heap.size wr.drew w5) => HC0.out _ (HBF.out w5 b5))
        clear hIr hb hbs bD hfl
        go_upto_region 12 with fail
        refine wp_region_calm (S := (fun W' => (W'.cell? ⟨b8, 0, none⟩ = some (.map (some mb)) ∧ W'.cell? ⟨w1.heap.size, 0, none⟩ = some (.slice va p.length vc) ∧ W'.cell? ⟨w1.heap.size, 1, none⟩ = some (.slice ua o.length uc)))) (by kernel_rfl) ?_ (fun hHeld => ?_)
        · (try dsimp only); exact HSD0.out
        refine wpAnyH_take (i := 0) (oi := { dst := some 46, op := Go.Op.move (Go.Operand.tmp 10), type := 24, pos := "l14_hands.go:192", after := #[], guard := none }) (v := ?_) rfl (by kernel_rfl) (by kernel_rfl) (by kernel_rfl) (fun _ _ _ h => h.no (by intro q; cases q)) (Or.inl ⟨by rfl, ?_⟩) (by assumption) ?_
        rotate_left
        · (intro w hSw; (try dsimp only at hSw); go_simp); (try with_reducible rfl)
        try simp only [Act.put, List.setIfInBounds_toArray, List.set_cons_zero, List.set_cons_succ]
        refine wpAnyH_take (i := 1) (oi := { dst := some 47, op := Go.Op.move (Go.Operand.tmp 11), type := 2, pos := "l14_hands.go:192", after := #[], guard := none }) (v := ?_) rfl (by kernel_rfl) (by kernel_rfl) (by kernel_rfl) (fun _ _ _ h => h.no (by intro q; cases q)) (Or.inl ⟨by rfl, ?_⟩) (by assumption) ?_
        rotate_left
        · (intro w hSw; (try dsimp only at hSw); go_simp); (try with_reducible rfl)
        try simp only [Act.put, List.setIfInBounds_toArray, List.set_cons_zero, List.set_cons_succ]
        refine wpAnyH_take (i := 2) (oi := { dst := some 48, op := Go.Op.load 64 (Go.Operand.tmp 8), type := 64, pos := "l14_hands.go:192", after := #[], guard := none }) (v := ?_) rfl (by kernel_rfl) (by kernel_rfl) (by kernel_rfl) (fun _ _ _ h => h.no (by intro q; cases q)) (Or.inl ⟨by rfl, ?_⟩) (by assumption) ?_
        rotate_left
        · (intro w hSw; (try dsimp only at hSw); go_simp); (try with_reducible rfl)
        try simp only [Act.put, List.setIfInBounds_toArray, List.set_cons_zero, List.set_cons_succ]
        refine wpAnyH_take (i := 3) (oi := { dst := some 49, op := Go.Op.move (Go.Operand.tmp 11), type := 2, pos := "l14_hands.go:192", after := #[], guard := none }) (v := ?_) rfl (by kernel_rfl) (by kernel_rfl) (by kernel_rfl) (fun _ _ _ h => h.no (by intro q; cases q)) (Or.inl ⟨by rfl, ?_⟩) (by assumption) ?_
        rotate_left
        · (intro w hSw; (try dsimp only at hSw); go_simp); (try with_reducible rfl)
        try simp only [Act.put, List.setIfInBounds_toArray, List.set_cons_zero, List.set_cons_succ]
        refine wpAnyH_take (i := 5) (oi := { dst := some 51, op := Go.Op.load 42 (Go.Operand.tmp 6), type := 42, pos := "l14_hands.go:192", after := #[], guard := none }) (v := ?_) rfl (by kernel_rfl) (by kernel_rfl) (by kernel_rfl) (fun _ _ _ h => h.no (by intro q; cases q)) (Or.inl ⟨by rfl, ?_⟩) (by assumption) ?_
        rotate_left
        · (intro w hSw; (try dsimp only at hSw); go_simp); (try with_reducible rfl)
        try simp only [Act.put, List.setIfInBounds_toArray, List.set_cons_zero, List.set_cons_succ]
        refine wpAnyH_ready (rs := [4, 6]) (by kernel_rfl) (by simp) ?_
        refine AllReadyH.cons (o := { dst := some 50, op := Go.Op.lookup 64 (Go.Operand.tmp 48) (Go.Operand.tmp 49) false, type := 24, pos := "l14_hands.go:192", after := #[{ on := 2, ground := Go.Ground.data }, { on := 3, ground := Go.Ground.data }], guard := none }) rfl (fun K hK => ?_) ?_
        · go_simp
          refine hK.out _ _ ?_ (fun hHeld2 => ?_)
          · (try dsimp only); exact HSD.out
          clear hK K hHeld
          have hHeld := hHeld2
          clear hHeld2
          try simp only [Act.put, List.setIfInBounds_toArray, List.set_cons_zero, List.set_cons_succ]
          refine wpAnyH_ready (rs := [6]) (by kernel_rfl) (by simp) ?_
          refine AllReadyH.cons (o := { dst := some 52, op := Go.Op.call { callee := Go.Callee.value (Go.Operand.func 33), args := #[Go.Operand.tmp 51], argTypes := #[42] }, type := 2, pos := "l14_hands.go:192", after := #[{ on := 5, ground := Go.Ground.data }], guard := none }) rfl (fun K hK => ?_) AllReadyH.nil
          go_simp
          (go_at_call 33; (with_reducible refine HP1.out.mono ?_); rintro e w5 ⟨rfl, b5⟩; have hold := HOLD.out w5 b5; have hfr := HFREE.out w5 b5; obtain ⟨q0, q1, q2⟩ := HSX.out w5 b5)
          refine hK.out _ _ ?_ (fun hHeld2 => ?_)
          · (try dsimp only); exact HSX.out w5 b5
          clear hK K hHeld
          have hHeld := hHeld2
          clear hHeld2
          try simp only [Act.put, List.setIfInBounds_toArray, List.set_cons_zero, List.set_cons_succ]
          refine wpAnyH_ready (rs := [7]) (by kernel_rfl) (by simp) ?_
          refine AllReadyH.cons (o := { dst := some 53, op := Go.Op.call { callee := Go.Callee.value (Go.Operand.func 55), args := #[Go.Operand.tmp 50, Go.Operand.tmp 52], argTypes := #[24, 2] }, type := 2, pos := "l14_hands.go:192", after := #[{ on := 4, ground := Go.Ground.data }, { on := 6, ground := Go.Ground.data }, { on := 6, ground := Go.Ground.chain }], guard := none }) rfl (fun K hK => ?_) AllReadyH.nil
          go_simp
          (go_at_call 55; (with_reducible refine (HGG.out w5 v1 i (hv1.below b5)).mono ?_); rintro e w6 ⟨rfl, rfl⟩)
          refine hK.out _ _ ?_ (fun hHeld2 => ?_)
          · (try dsimp only); exact HSX.out w5 b5
          clear hK K hHeld
          have hHeld := hHeld2
          clear hHeld2
          try simp only [Act.put, List.setIfInBounds_toArray, List.set_cons_zero, List.set_cons_succ]
          refine wpAnyH_take (i := 8) (oi := { dst := some 54, op := Go.Op.indexAddr 24 (Go.Operand.tmp 46) (Go.Operand.tmp 47), type := 0, pos := "l14_hands.go:192", after := #[{ on := 0, ground := Go.Ground.data }, { on := 1, ground := Go.Ground.data }, { on := 0, ground := Go.Ground.phase }, { on := 1, ground := Go.Ground.phase }, { on := 2, ground := Go.Ground.phase }, { on := 3, ground := Go.Ground.phase }, { on := 4, ground := Go.Ground.phase }, { on := 5, ground := Go.Ground.phase }, { on := 6, ground := Go.Ground.phase }, { on := 7, ground := Go.Ground.phase }], guard := none }) (v := ?_) rfl (by kernel_rfl) (by kernel_rfl) (by kernel_rfl) (fun _ _ _ h => h.no (by intro q; cases q)) (Or.inl ⟨by rfl, ?_⟩) (by assumption) ?_
          rotate_left
          · (intro w hSw; (try dsimp only at hSw); go_simp); (try with_reducible rfl)
          try simp only [Act.put, List.setIfInBounds_toArray, List.set_cons_zero, List.set_cons_succ]
          refine wpAnyH_ready (rs := [9]) (by kernel_rfl) (by simp) ?_
          refine AllReadyH.cons (o := { dst := none, op := Go.Op.store 2 (Go.Operand.tmp 54) (Go.Operand.tmp 53), type := 0, pos := "l14_hands.go:192", after := #[{ on := 8, ground := Go.Ground.data }, { on := 7, ground := Go.Ground.data }, { on := 7, ground := Go.Ground.chain }, { on := 0, ground := Go.Ground.phase }, { on := 1, ground := Go.Ground.phase }, { on := 2, ground := Go.Ground.phase }, { on := 3, ground := Go.Ground.phase }, { on := 4, ground := Go.Ground.phase }, { on := 5, ground := Go.Ground.phase }, { on := 6, ground := Go.Ground.phase }, { on := 7, ground := Go.Ground.phase }], guard := none }) rfl (fun K hK => ?_) AllReadyH.nil
          go_simp
          refine hK.out _ _ ?_ (fun hHeld2 => ?_)
          · (try dsimp only); exact HSS.out w5 b5
          clear hK K hHeld
          have hHeld := hHeld2
          clear hHeld2
          try simp only [Act.put, List.setIfInBounds_toArray, List.set_cons_zero, List.set_cons_succ]
          refine wpAnyH_done (by kernel_rfl) ⟨rfl, ?_⟩ _
          go_wp2
          go_roundw
          case rel => exact ⟨i + 1, by omega, by go_num, HSET.out w5 b5, HBF.out w5 b5⟩
          case measure => simp [intOf]; omega
        refine AllReadyH.cons (o := { dst := some 52, op := Go.Op.call { callee := Go.Callee.value (Go.Operand.func 33), args := #[Go.Operand.tmp 51], argTypes := #[42] }, type := 2, pos := "l14_hands.go:192", after := #[{ on := 5, ground := Go.Ground.data }], guard := none }) rfl (fun K hK => ?_) ?_
        · go_simp
          (go_at_call 33; (with_reducible refine HP1.out.mono ?_); rintro e w5 ⟨rfl, b5⟩; have hold := HOLD.out w5 b5; have hfr := HFREE.out w5 b5; obtain ⟨q0, q1, q2⟩ := HSX.out w5 b5; obtain ⟨v2, hlk2, hv2⟩ := HLK.out w5 (HBT.out w5 b5) i (by omega))
          refine hK.out _ _ ?_ (fun hHeld2 => ?_)
          · (try dsimp only); exact HSX.out w5 b5
          clear hK K hHeld
          have hHeld := hHeld2
          clear hHeld2
          try simp only [Act.put, List.setIfInBounds_toArray, List.set_cons_zero, List.set_cons_succ]
          refine wpAnyH_ready (rs := [4]) (by kernel_rfl) (by simp) ?_
          refine AllReadyH.cons (o := { dst := some 50, op := Go.Op.lookup 64 (Go.Operand.tmp 48) (Go.Operand.tmp 49) false, type := 24, pos := "l14_hands.go:192", after := #[{ on := 2, ground := Go.Ground.data }, { on := 3, ground := Go.Ground.data }], guard := none }) rfl (fun K hK => ?_) AllReadyH.nil
          go_simp
          refine hK.out _ _ ?_ (fun hHeld2 => ?_)
          · (try dsimp only); exact HSX.out w5 b5
          clear hK K hHeld
          have hHeld := hHeld2
          clear hHeld2
          try simp only [Act.put, List.setIfInBounds_toArray, List.set_cons_zero, List.set_cons_succ]
          refine wpAnyH_ready (rs := [7]) (by kernel_rfl) (by simp) ?_
          refine AllReadyH.cons (o := { dst := some 53, op := Go.Op.call { callee := Go.Callee.value (Go.Operand.func 55), args := #[Go.Operand.tmp 50, Go.Operand.tmp 52], argTypes := #[24, 2] }, type := 2, pos := "l14_hands.go:192", after := #[{ on := 4, ground := Go.Ground.data }, { on := 6, ground := Go.Ground.data }, { on := 6, ground := Go.Ground.chain }], guard := none }) rfl (fun K hK => ?_) AllReadyH.nil
          go_simp
          (go_at_call 55; (with_reducible refine (HGG.out w5 v2 i hv2).mono ?_); rintro e w6 ⟨rfl, rfl⟩)
          refine hK.out _ _ ?_ (fun hHeld2 => ?_)
          · (try dsimp only); exact HSX.out w5 b5
          clear hK K hHeld
          have hHeld := hHeld2
          clear hHeld2
          try simp only [Act.put, List.setIfInBounds_toArray, List.set_cons_zero, List.set_cons_succ]
          refine wpAnyH_take (i := 8) (oi := { dst := some 54, op := Go.Op.indexAddr 24 (Go.Operand.tmp 46) (Go.Operand.tmp 47), type := 0, pos := "l14_hands.go:192", after := #[{ on := 0, ground := Go.Ground.data }, { on := 1, ground := Go.Ground.data }, { on := 0, ground := Go.Ground.phase }, { on := 1, ground := Go.Ground.phase }, { on := 2, ground := Go.Ground.phase }, { on := 3, ground := Go.Ground.phase }, { on := 4, ground := Go.Ground.phase }, { on := 5, ground := Go.Ground.phase }, { on := 6, ground := Go.Ground.phase }, { on := 7, ground := Go.Ground.phase }], guard := none }) (v := ?_) rfl (by kernel_rfl) (by kernel_rfl) (by kernel_rfl) (fun _ _ _ h => h.no (by intro q; cases q)) (Or.inl ⟨by rfl, ?_⟩) (by assumption) ?_
          rotate_left
          · (intro w hSw; (try dsimp only at hSw); go_simp); (try with_reducible rfl)
          try simp only [Act.put, List.setIfInBounds_toArray, List.set_cons_zero, List.set_cons_succ]
          refine wpAnyH_ready (rs := [9]) (by kernel_rfl) (by simp) ?_
          refine AllReadyH.cons (o := { dst := none, op := Go.Op.store 2 (Go.Operand.tmp 54) (Go.Operand.tmp 53), type := 0, pos := "l14_hands.go:192", after := #[{ on := 8, ground := Go.Ground.data }, { on := 7, ground := Go.Ground.data }, { on := 7, ground := Go.Ground.chain }, { on := 0, ground := Go.Ground.phase }, { on := 1, ground := Go.Ground.phase }, { on := 2, ground := Go.Ground.phase }, { on := 3, ground := Go.Ground.phase }, { on := 4, ground := Go.Ground.phase }, { on := 5, ground := Go.Ground.phase }, { on := 6, ground := Go.Ground.phase }, { on := 7, ground := Go.Ground.phase }], guard := none }) rfl (fun K hK => ?_) AllReadyH.nil
          go_simp
          refine hK.out _ _ ?_ (fun hHeld2 => ?_)
          · (try dsimp only); exact HSS.out w5 b5
          clear hK K hHeld
          have hHeld := hHeld2
          clear hHeld2
          try simp only [Act.put, List.setIfInBounds_toArray, List.set_cons_zero, List.set_cons_succ]
          refine wpAnyH_done (by kernel_rfl) ⟨rfl, ?_⟩ _
          go_wp2
          go_roundw
          case rel => exact ⟨i + 1, by omega, by go_num, HSET.out w5 b5, HBF.out w5 b5⟩
          case measure => simp [intOf]; omega
        exact AllReadyH.nil
      · obtain rfl : i = c := by omega
        rw [show fillK (rsL p o i) i = rsL p o i from by have := fillK_all (rsL p o i); rw [rsL_len] at this; exact this] at hIr
        have hK' := HK.out wr hb
        have hWr := HWK.out wr hb
        clear HK HWK
        clear HP HLK HGG HC0
        go_wp2
        refine ⟨by simp, .inl ⟨_, _, rfl, run_takeDeferred hK', ?_⟩⟩
        refine ⟨.tuple #[.slice (some ⟨W.heap.size, 0, none⟩) i i, .int .i64 0], by simp [results, Try.results21, go_sem], _, rfl, Ints.mono (ownsRow_putObj hIr (.deferred none) hK' rfl) (by omega), hWr.trans (belowK_b (w := w) (Nat.le_refl _) _ D _ _ (by omega) hK' rfl rfl)⟩

theorem restsOf_impl (v u : Value) (B C : Nat) (p o : List Int) (w : World) (h : Ints w B v p) (k : Ints w C u o) :
    Calls Try.prog 21 #[v, u] w fun e w' => ∃ x, e = .returned (.tuple #[x, .int .i64 (poC p o)]) ∧ Ints w' w.heap.size x (rsA p o) ∧ Below w.heap.size w w' := by
  cases hq : okPO p o with
  | false =>
    have HC := handedOf_any v u B C p o w h k
    rw [rsA_false hq, poC_false hq]
    rw [poC_false hq, hdP_false hq] at HC
    clear h k
    go_enter Try.func21, Try.ntmps21
    go_wp2_with fail
    refine HC.mono ?_
    rintro e w1 ⟨rfl, b1⟩
    have B2 := b1.alloc b1.size (.cells #[.slice none 0 0, .slice none 0 0] 42)
    go_wp2
    go_ret2
    exact ⟨_, rfl, Ints.nil _ _, B2⟩
  | true =>
    rw [rsA_true hq, poC_true hq]
    obtain ⟨va, vc, rfl⟩ := ints_slH h
    obtain ⟨ua, uc, rfl⟩ := ints_slH k
    have hc := okH_cnt (okPO_parts hq).2
    exact callsIn_wide.1 (restsOf_row va ua vc uc B C p o w h k hq (cntH o).toNat (by omega))
end Go.Proofs.Ytlpeigeadjojnaa
