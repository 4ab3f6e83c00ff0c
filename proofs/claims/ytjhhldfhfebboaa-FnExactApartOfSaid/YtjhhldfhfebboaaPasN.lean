/- The model's l06Ok. -/
import Derived.Test.YtjhhldfhfebboaaPasM
namespace Go.Proofs.Ytjhhldfhfebboaa
open Go.RowKit Go.Shelf
set_option linter.unusedSimpArgs false
set_option linter.unusedVariables false

theorem blk_made {w : World} {B g m : Nat} {z : Value} {T : TypeId} (h : w.ownsRow B T 1 (.slice (some ⟨g, 0, none⟩) m m) m (List.replicate m z)) : Blk w g (List.replicate m z) T := by
  obtain ⟨_, ⟨hv, _⟩ | ⟨g', cap, cur, hv, _, hh, _, _, hsz, ht⟩⟩ := h
  · cases hv
  · cases hv
    unfold Blk
    rw [hh, ← ht, List.take_of_length_le (by simp [hsz])]
theorem okPt_num {t : Pt} (h : okPt t = true) : 0 ≤ t.1 ∧ t.1 ≤ 15 := by
  simp only [okPt, Bool.and_eq_true, decide_eq_true_eq] at h; exact h.1

set_option maxRecDepth 10000 in
set_option maxHeartbeats 2000000 in
theorem l06Ok_row (P ga gb ca cb n : Nat) (a b : List Pt) (w : World) (h1 : 1 ≤ n) (h8 : n ≤ 8) (hok : ∀ i, i < n → okPt (a.getD i p0) = true ∧ okPt (b.getD i p0) = true) (hga : ga < w.heap.size) (hgb : gb < w.heap.size)
    (hca : ∀ i, i < n → TwoP w ga (i * 2) (a.getD i p0)) (hcb : ∀ i, i < n → TwoP w gb (i * 2) (b.getD i p0)) (hP : Blk w P [.slice (some ⟨ga, 0, none⟩) n ca, .slice (some ⟨gb, 0, none⟩) n cb] 31)
    (hS : Calls Try.prog 84 #[.pointer (some ⟨P, 0, none⟩)] w fun e w' => e = .returned (.bool true) ∧ Below w.heap.size w w') :
    Calls Try.prog 48 #[.pointer (some ⟨P, 0, none⟩)] w fun e w' => e = .returned (.bool (decide (seenK n a b n).Nodup)) ∧ Below w.heap.size w w' := by
  obtain ⟨i0, hi, hz0, hz1, hz2⟩ := info_parts infoB_at
  go_enter Try.func48, Try.ntmps48
  go_wp2_with fail
  refine hS.mono ?_
  rintro e w1 ⟨rfl, b1⟩
  have p1 := hP.below b1 hP.lt
  have c0 := p1.cell 0
  have c1 := p1.cell 1
  simp only [List.getElem?_cons_zero, List.getElem?_cons_succ] at c0 c1
  clear hS
  go_wp2_with (at_make; refine wpList_make_full _ rfl _ _ 102 rfl w1.heap.size 4 i0 (.bool false) 1 Try.underlying102 hi hz0 hz1 _ _ _ _ (2 * n) rfl rfl (by go_num) (by go_num) (by rw [hz2]; omega) (by unfold maxLen; omega) (Nat.le_refl _) ?_)
  intro w2 hown hg2
  have bS : Blk w2 w1.heap.size (seenOf n (seenK n a b 0)) 4 := by
    rw [show seenK n a b 0 = [] from rfl, seenOf_nil]
    exact blk_made (by simpa [toList_madeCells_one] using hown)
  have B2 : Below w.heap.size w w2 := b1.grown hg2 b1.size (by simp)
  have hS1 := b1.size
  obtain ⟨S, hSS⟩ : ∃ S, w1.heap.size = S := ⟨_, rfl⟩
  rw [hSS] at bS hS1 ⊢
  have HP := Lib.hid hP
  have HCA := Lib.hid hca
  have HCB := Lib.hid hcb
  have HOK := Lib.hid hok
  clear hown hg2 hi hz0 hz1 hz2 p1 c0 c1 hP hca hcb hok b1 hSS
  go_wp2
  go_loopw [5] (fun i wr => ∃ k : Nat, k ≤ n ∧ i = .int .i64 k ∧ Blk wr S (seenOf n (seenK n a b k)) 4 ∧ Hid ((seenK n a b k).Nodup) ∧ Below w.heap.size w wr) (fun i _ => n - (intOf i).toNat)
  case atStart => exact ⟨0, Nat.zero_le _, rfl, bS, Lib.hid List.nodup_nil, B2⟩
  case round =>
    clear bS B2
    obtain ⟨k, hk, rfl, bS, hnd, hb⟩ := hrel
    have pr := HP.out.below hb HP.out.lt
    have c0 := pr.cell 0
    have c1 := pr.cell 1
    simp only [List.getElem?_cons_zero, List.getElem?_cons_succ] at c0 c1
    clear pr
    by_cases hlt : k < n
    · obtain ⟨x0, x1⟩ := (HCA.out k hlt).below hb hga
      obtain ⟨ka, hka, hla⟩ := landK_nat n (a.getD k p0, 0, k) (by omega) (by simp)
      obtain ⟨kb, hkb, hlb⟩ := landK_nat n (b.getD k p0, 1, k) (by omega) (by simp)
      have hsucc := seenK_succ n a b k
      rw [hla, hlb] at hsucc
      have HBAD := Lib.hid (fun (h : ¬ (seenK n a b k ++ [(ka : Int)] ++ [(kb : Int)]).Nodup) => show decide (seenK n a b n).Nodup = false from decide_eq_false (seenK_bad n a b (k + 1) (by omega) (by rw [hsucc]; exact h)))
      have va := okPt_num (HOK.out k hlt).1
      have vb := okPt_num (HOK.out k hlt).2
      have HLA := Lib.hid (fun W => show Calls Try.prog 85 #[.agg #[.int .i64 (a.getD k p0).1, .bool (a.getD k p0).2], .int .i64 0, .int .i64 k, .int .i64 n] W fun e w' => e = .returned (.int .i64 ka) ∧ Below W.heap.size W w' from by
        rw [← hla]; exact l06Land_any (a.getD k p0).1 (a.getD k p0).2 0 k n W va (by omega) hlt h8)
      have HLB := Lib.hid (fun W => show Calls Try.prog 85 #[.agg #[.int .i64 (b.getD k p0).1, .bool (b.getD k p0).2], .int .i64 1, .int .i64 k, .int .i64 n] W fun e w' => e = .returned (.int .i64 kb) ∧ Below W.heap.size W w' from by
        rw [← hlb]; exact l06Land_any (b.getD k p0).1 (b.getD k p0).2 1 k n W vb (by omega) hlt h8)
      have HYB := Lib.hid (fun W (hW : Below w.heap.size w W) => (HCB.out k hlt).below hW hgb)
      have HSU := Lib.hid hsucc
      clear HCA HCB hla hlb va vb HOK hsucc
      generalize a.getD k p0 = y at *
      generalize b.getD k p0 = z at *
      obtain ⟨y0, y1⟩ := y
      obtain ⟨z0, z1⟩ := z
      simp only at x0 x1
      have hz0 : wr.heap.size ≥ w.heap.size := hb.size
      have hS2 := bS.lt
      go_wp2_with fail
      refine (HLA.out _).mono ?_
      rintro e wa ⟨rfl, ba⟩
      have BA := hb.trans (ba.mono hb.size)
      have sA := bS.below ba bS.lt
      obtain ⟨q0, q1⟩ := HYB.out _ BA
      simp only at q0 q1
      have pa := HP.out.below BA HP.out.lt
      have d0 := pa.cell 0
      have d1 := pa.cell 1
      simp only [List.getElem?_cons_zero, List.getElem?_cons_succ] at d0 d1
      clear pa c0 c1 x0 x1 HLA bS hb ba hz0 hS2
      go_wp2_with fail
      refine (HLB.out _).mono ?_
      rintro e wb ⟨rfl, bb⟩
      have BW := BA.trans (bb.mono BA.size)
      have sB := sA.below bb sA.lt
      clear d0 d1 q0 q1 HLB sA bb HYB BA
      have ceA := (sB.cell ka).trans (seenOf_get n _ ka hka)
      have ceB := (sB.cell kb).trans (seenOf_get n _ kb hkb)
      have frA := sB.free ka
      have frB := sB.free kb
      have HSB := Lib.hid sB
      clear sB
      by_cases hma : (ka : Int) ∈ seenK n a b k
      · rw [decide_eq_true hma] at ceA
        have HR := Lib.hid (HBAD.out fun hn => by
          have h2 := (List.nodup_append.1 (List.nodup_append.1 hn).1).2.2
          exact h2 _ hma _ (by simp) rfl)
        clear HBAD HSU hma ceB
        go_wp2
        go_ret
        exact ⟨by rw [HR.out]; rfl, BW⟩
      · rw [decide_eq_false hma] at ceA
        by_cases hab : ka = kb
        · have HR := Lib.hid (HBAD.out fun hn => by
            have h2 := (List.nodup_append.1 hn).2.2
            exact h2 (ka : Int) (by simp) (kb : Int) (by simp) (by omega))
          have heq : ((ka : Int) == (kb : Int)) = true := by simp [hab]
          clear HBAD HSU hma ceB hab
          go_wp2
          go_ret
          exact ⟨by rw [HR.out]; rfl, BW⟩
        · have heq : ((ka : Int) == (kb : Int)) = false := by simp; omega
          by_cases hmb : (kb : Int) ∈ seenK n a b k
          · rw [decide_eq_true hmb] at ceB
            have HR := Lib.hid (HBAD.out fun hn => by
              have h2 := (List.nodup_append.1 hn).2.2
              exact h2 (kb : Int) (List.mem_append_left _ hmb) (kb : Int) (by simp) rfl)
            clear HBAD HSU hma hmb hab
            go_wp2
            go_ret
            exact ⟨by rw [HR.out]; rfl, BW⟩
          · rw [decide_eq_false hmb] at ceB
            have HN := Lib.hid (show (seenK n a b (k + 1)).Nodup from by
              rw [HSU.out, List.nodup_append, List.nodup_append]
              refine ⟨⟨hnd.out, by simp, fun x hx y hy e => hma (by rw [List.mem_singleton.1 hy] at e; rw [← e]; exact hx)⟩, by simp, fun x hx y hy e => ?_⟩
              rw [List.mem_singleton.1 hy] at e
              rcases List.mem_append.1 hx with hx | hx
              · exact hmb (by rw [← e]; exact hx)
              · rw [List.mem_singleton.1 hx] at e; omega)
            have HSN := Lib.hid (show seenOf n (seenK n a b (k + 1)) = ((seenOf n (seenK n a b k)).set ka (.bool true)).set kb (.bool true) from by
              rw [seenOf_snoc _ _ _ hka, seenOf_snoc _ _ _ hkb, HSU.out])
            have ce2 : (wb.setCell ⟨S, ka, none⟩ (.bool true)).cell? ⟨S, kb, none⟩ = some (.bool false) := ((HSB.out.set ka (.bool true)).cell kb).trans (by rw [List.getElem?_set_ne hab, seenOf_get n _ kb hkb, decide_eq_false hmb])
            have fr2 := (HSB.out.set ka (.bool true)).free kb
            clear HBAD HSU hma hmb hab hnd
            go_wp2
            refine ⟨⟨k + 1, by omega, by go_num, by rw [HSN.out]; exact (HSB.out.set ka _).set kb _, HN, (BW.setCell (p := ⟨S, ka, none⟩) hS1 _).setCell (p := ⟨S, kb, none⟩) hS1 _⟩, by simp [intOf]; omega⟩
    · obtain rfl : k = n := by omega
      clear c0 c1
      have HR := Lib.hid (decide_eq_true hnd.out)
      clear hnd
      go_wp2
      go_ret
      exact ⟨by rw [HR.out]; rfl, hb⟩

set_option maxRecDepth 10000 in
theorem l06Ok_bad (P : Nat) (w : World)
    (hS : Calls Try.prog 84 #[.pointer (some ⟨P, 0, none⟩)] w fun e w' => e = .returned (.bool false) ∧ Below w.heap.size w w') :
    Calls Try.prog 48 #[.pointer (some ⟨P, 0, none⟩)] w fun e w' => e = .returned (.bool false) ∧ Below w.heap.size w w' := by
  go_enter Try.func48, Try.ntmps48
  go_wp2_with fail
  refine hS.mono ?_
  rintro e w1 ⟨rfl, b1⟩
  clear hS
  go_wp2
  go_ret
  exact ⟨rfl, b1⟩

theorem l06Ok_any (P : Nat) (va vb : Value) (B C : Nat) (a b : List Pt) (w : World) (h : PasP w B C va vb a b) (hP : Blk w P [va, vb] 31) :
    Calls Try.prog 48 #[.pointer (some ⟨P, 0, none⟩)] w fun e w' => e = .returned (.bool (okPas a b)) ∧ Below w.heap.size w w' := by
  have hS := l06Shape_any P va vb B C a b w h hP
  unfold okPas
  cases ho : okPL a b with
  | false =>
    rw [ho] at hS
    simpa using l06Ok_bad P w hS
  | true =>
    rw [ho] at hS
    have hn := okPL_num ho
    obtain ⟨ga, ca, rfl, _, hga, _, _⟩ := h.fst.shape2 hn.1
    obtain ⟨gb, cb, rfl, _, hgb, _, _⟩ := h.snd.shape2 (by omega)
    have hm : (mts a.length a b).all (fun x => okPt x.1) = true := by rw [← okPL_mem hn]; exact ho
    have hca := fun i (hi : i < a.length) => h.fst.twoP i hi
    have hcb := fun i (hi : i < a.length) => h.snd.twoP i (by omega)
    rw [← hn.2.2] at hP
    have hk : ∀ i, i < a.length → okPt (a.getD i p0) = true ∧ okPt (b.getD i p0) = true := fun i hi => by
      have h2 := List.all_eq_true.1 hm
      exact ⟨h2 (a.getD i p0, 0, i) (List.mem_append_left _ (List.mem_map.2 ⟨i, List.mem_range.2 hi, rfl⟩)), h2 (b.getD i p0, 1, i) (List.mem_append_right _ (List.mem_map.2 ⟨i, List.mem_range.2 hi, rfl⟩))⟩
    have := l06Ok_row P ga gb ca cb a.length a b w hn.1 hn.2.1 hk hga hgb hca hcb hP hS
    rw [show decide (seenK a.length a b a.length).Nodup = (true && decide (lands a.length a b).Nodup) from by rw [Bool.true_and]; exact decide_eq_decide.2 (seenK_all _ _ _)] at this
    exact this

set_option maxRecDepth 10000 in
theorem validPassing_spec (va vb : Value) (B C : Nat) (a b : List Pt) (w : World) (h : PasP w B C va vb a b) :
    Calls Try.prog 46 #[.agg #[va, vb]] w fun e w' => e = .returned (.bool (okPas a b)) ∧ Below w.heap.size w w' := by
  have b0 := (Below.refl w.heap.size w).alloc (Nat.le_refl _) (.cells #[va, vb] 31)
  have HO := l06Ok_any w.heap.size va vb B C a b (w.alloc (.cells #[va, vb] 31)) (h.below b0) (Blk.made w #[va, vb] _)
  clear h
  go_enter Try.func46, Try.ntmps46
  go_wp2_with fail
  refine HO.mono ?_
  rintro e w1 ⟨rfl, b1⟩
  clear HO
  go_wp2
  go_ret
  exact ⟨rfl, b0.trans (b1.mono b0.size)⟩
end Go.Proofs.Ytjhhldfhfebboaa
