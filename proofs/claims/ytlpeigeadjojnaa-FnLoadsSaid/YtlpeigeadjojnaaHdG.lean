/- RestsOf: what it answers; the model's; the program's greatestGap. No conditions. -/
import Derived.Test.YtlpeigeadjojnaaHdX
import Derived.Test.YtlpeigeadjojnaaHdL
namespace Go.Proofs.Ytlpeigeadjojnaa
open Go.RowKit
set_option linter.unusedSimpArgs false
set_option linter.unusedVariables false

/-- the beats at which a hand throws -/
def btF (L : List HthT) (h : Int) : List Int := (L.filter fun t => t.2.2.1 == h).map fun t => t.1
theorem btF_nil (h : Int) : btF [] h = [] := rfl
theorem btF_yes (L : List HthT) (y : HthT) (h : Int) (e : y.2.2.1 = h) : btF (L ++ [y]) h = btF L h ++ [y.1] := by simp [btF, List.filter_append, e]
theorem btF_no (L : List HthT) (y : HthT) (h : Int) (e : ¬ y.2.2.1 = h) : btF (L ++ [y]) h = btF L h := by
  have : (y.2.2.1 == h) = false := by simpa using e
  simp [btF, List.filter_append, this]
theorem btF_len (L : List HthT) (h : Int) : (btF L h).length ≤ L.length := by
  unfold btF
  rw [List.length_map]
  exact List.length_filter_le _ _
/-- the greatest of the first k gaps -/
def gapK (bs : List Int) : Nat → Int
  | 0 => 0
  | k + 1 => max (gapK bs k) (bs.getD (k + 1) 0 - bs.getD k 0)
def wrapG (bs : List Int) (n : Int) : Int := bs.getD 0 0 + n - bs.getD (bs.length - 1) 0
/-- the greatest number of beats from one to the next, 0 if there are none -/
def restG (bs : List Int) (n : Int) : Int := if bs.length = 0 then 0 else max (gapK bs (bs.length - 1)) (wrapG bs n)
theorem gapK_step (bs : List Int) (k : Nat) : gapK bs (k + 1) = max (gapK bs k) (bs.getD (k + 1) 0 - bs.getD k 0) := rfl
theorem gapK_bound {bs : List Int} {m : Int} (hm : 0 ≤ m) (hb : ∀ k, k < bs.length → 0 ≤ bs.getD k 0 ∧ bs.getD k 0 ≤ m) : ∀ k, k < bs.length ∨ k = 0 → 0 ≤ gapK bs k ∧ gapK bs k ≤ m
  | 0, _ => by simp [gapK]; exact hm
  | k + 1, h => by
    have h1 := gapK_bound hm hb k (by omega)
    have h2 := hb (k + 1) (by omega)
    have h3 := hb k (by omega)
    rw [gapK_step]
    omega
/-- all beats lie in a common period -/
def inP (bs : List Int) (n : Int) : Prop := ∀ k, k < bs.length → 0 ≤ bs.getD k 0 ∧ bs.getD k 0 < n
theorem wrapG_pos {bs : List Int} {n : Int} (h : inP bs n) (h1 : 1 ≤ bs.length) : 0 ≤ wrapG bs n ∧ wrapG bs n ≤ 2 * n := by
  have h2 := h 0 (by omega)
  have h3 := h (bs.length - 1) (by omega)
  unfold wrapG
  omega
theorem btF_in {p o : List Int} (h : Int) : inP (btF (thH p o) h) (cpN p o : Nat) := by
  intro k hk
  have hm : (btF (thH p o) h).getD k 0 ∈ btF (thH p o) h := by
    rw [List.getD_eq_getElem?_getD, List.getElem?_eq_getElem hk]
    exact List.getElem_mem _
  unfold btF at hm
  obtain ⟨t, ht, e⟩ := List.mem_map.1 hm
  obtain ⟨b, hb, _, e2⟩ := thK_mem (List.mem_filter.1 ht).1
  unfold btF
  rw [← e, e2]
  show 0 ≤ (b : Int) ∧ (b : Int) < _
  omega
def rsL (p o : List Int) (c : Nat) : List Int := (List.range c).map fun h : Nat => restG (btF (thH p o) (h : Int)) (cpN p o : Nat)
theorem rsL_len (p o : List Int) (c : Nat) : (rsL p o c).length = c := by simp [rsL]
theorem rsL_at (p o : List Int) (c k : Nat) (hk : k < c) : (rsL p o c).getD k 0 = restG (btF (thH p o) (k : Int)) (cpN p o : Nat) := by simp [rsL, hk]
theorem rsL_take (p o : List Int) (c k : Nat) (hk : k < c) : (rsL p o c).take (k + 1) = (rsL p o c).take k ++ [restG (btF (thH p o) (k : Int)) (cpN p o : Nat)] := by
  rw [List.take_succ_eq_append_getElem (by rw [rsL_len]; exact hk)]
  simp [rsL]
def rsA (p o : List Int) : List Int := if okPO p o then rsL p o (cntH o).toNat else []
theorem rsA_true {p o : List Int} (h : okPO p o = true) : rsA p o = rsL p o (cntH o).toNat := by rw [rsA, if_pos h]
theorem rsA_false {p o : List Int} (h : okPO p o = false) : rsA p o = [] := by rw [rsA, if_neg (by simp [h])]
theorem rsA_len (p o : List Int) : (rsA p o).length ≤ 4 := by
  cases h : okPO p o with
  | false => rw [rsA_false h]; simp
  | true => rw [rsA_true h, rsL_len]; have := okH_cnt (okPO_parts h).2; omega

set_option maxRecDepth 10000 in
set_option maxHeartbeats 1000000 in
theorem greatestGap_any (v : Value) (B : Nat) (bs : List Int) (n : Int) (w : World) (h : Ints w B v bs) (hl : bs.length ≤ 144) (hin : inP bs n) (hn : 0 ≤ n) (hn2 : n ≤ 1000) :
    Calls Try.prog 55 #[v, .int .i64 n] w fun e w' => e = .returned (.int .i64 (restG bs n)) ∧ w = w' := by
  by_cases h0 : bs.length = 0
  · rw [restG, if_pos h0]
    obtain ⟨va, vc, rfl⟩ := ints_slH h
    rw [h0]
    clear h hin
    go_enter Try.func55, Try.ntmps55
    go_wp2
    go_ret
    exact ⟨rfl, rfl⟩
  · rw [restG, if_neg h0]
    obtain ⟨g, cap, rfl, _, _, _, _⟩ := h.shape2 (by omega)
    have HC := Lib.hid (fun j (hj : j < bs.length) => h.cell j hj)
    have HB := Lib.hid hin
    have hw := wrapG_pos hin (by omega)
    have HG := Lib.hid (fun k (hk : k < bs.length ∨ k = 0) => gapK_bound (m := 1000) (by omega) (fun k hk => by have := hin k hk; omega) k hk)
    have HS := Lib.hid (fun k => gapK_step bs k)
    have HW : Hid (bs.getD 0 0 - (bs.getD (bs.length - 1) 0 - n) = wrapG bs n) := Lib.hid (by unfold wrapG; omega)
    have cl := h.cell (bs.length - 1) (by omega)
    have hb1 := hin (bs.length - 1) (by omega)
    have ei : (((bs.length - 1 : Nat)) : Int) = (bs.length : Int) - 1 := by omega
    clear h hin
    obtain ⟨m, hm⟩ : ∃ m, bs.length = m + 1 := ⟨bs.length - 1, by omega⟩
    have hsub : bs.length - 1 = m := by omega
    rw [hsub] at cl hb1 HW ei ⊢
    rw [hm] at HC HG hl ⊢
    have HB2 := Lib.hid (fun k (hk : k < m + 1) => HB.out k (by omega))
    clear HB
    have HB := HB2
    clear HB2
    have ei2 : ((m + 1 : Nat) : Int) - 1 = (m : Int) := by omega
    have hl2 : m ≤ 143 := by omega
    clear hm ei h0 hsub
    obtain ⟨lst, hlst⟩ : ∃ x, bs.getD m 0 = x := ⟨_, rfl⟩
    rw [hlst] at cl hb1 HW
    go_enter Try.func55, Try.ntmps55
    go_wp2
    go_loop [5, 6, 8, 22] (fun t bf _ i => ∃ k : Nat, k ≤ m + 1 ∧ i = .int .i64 k ∧ ((k = 0 ∧ t = .int .i64 0 ∧ bf = .int .i64 (lst - n)) ∨ (∃ j, k = j + 1 ∧ t = .int .i64 (max (wrapG bs n) (gapK bs j)) ∧ bf = .int .i64 (bs.getD j 0)))) (fun _ _ _ i => m + 1 - (intOf i).toNat)
    case atStart => exact ⟨0, by omega, rfl, .inl ⟨rfl, rfl, rfl⟩⟩
    case round =>
      obtain ⟨k, hk, rfl, hcase⟩ := hrel
      rcases hcase with ⟨rfl, rfl, rfl⟩ | ⟨j, rfl, rfl, rfl⟩
      · have c0 := HC.out 0 (by omega)
        have hb0 := HB.out 0 (by omega)
        have hww := HW.out
        have hwx := Lib.hid hww
        clear HC HB HG HS HW hww
        obtain ⟨x0, hx0⟩ : ∃ x, bs.getD 0 0 = x := ⟨_, rfl⟩
        rw [hx0] at c0 hb0 hwx
        have hX := Lib.hid hx0
        clear hx0
        obtain ⟨hb0a, hb0b⟩ := hb0
        go_wp2
        go_round
        case rel =>
          refine ⟨0 + 1, by omega, by go_num, .inr ⟨0, rfl, ?_, by rw [hX.out]⟩⟩
          have e := hwx.out
          rw [← e]
          simp only [gapK]
          congr 1
          first | omega | (split <;> omega)
        case measure => simp [intOf]
      · by_cases hlt : j + 1 < m + 1
        · have c1 := HC.out (j + 1) hlt
          have hb1' := HB.out (j + 1) hlt
          have hb2 := HB.out j (by omega)
          have hg1 := HG.out j (by omega)
          have hst := Lib.hid (HS.out j)
          obtain ⟨y1, hy1⟩ : ∃ x, bs.getD (j + 1) 0 = x := ⟨_, rfl⟩
          rw [hy1] at c1 hb1' hst
          have hY := Lib.hid hy1
          generalize bs.getD j 0 = y0 at *
          generalize gapK bs j = gk at *
          generalize wrapG bs n = wg at *
          clear HC HB HG HS HW hy1
          obtain ⟨p1, p2⟩ := hb1'
          obtain ⟨p3, p4⟩ := hb2
          obtain ⟨p5, p6⟩ := hg1
          obtain ⟨p7, p8⟩ := hw
          obtain ⟨mx, hmx⟩ : ∃ x : Int, max wg gk = x := ⟨_, rfl⟩
          have hmx1 : 0 ≤ mx ∧ mx ≤ 2000 := by omega
          rw [hmx]
          obtain ⟨q1, q2⟩ := hmx1
          have HM := Lib.hid hmx
          clear hmx
          go_wp2
          go_round
          case rel =>
            refine ⟨j + 1 + 1, by omega, by go_num, .inr ⟨j + 1, rfl, ?_, by rw [hY.out]⟩⟩
            rw [hst.out, ← HM.out]
            congr 1
            first | omega | (split <;> omega)
          case measure => simp [intOf]; omega
        · obtain rfl : j = m := by omega
          have hfin : max (wrapG bs n) (gapK bs j) = max (gapK bs j) (wrapG bs n) := by omega
          rw [hfin]
          clear HC HB HG HS HW
          go_wp2
          go_ret
          exact ⟨rfl, rfl⟩

set_option maxRecDepth 10000 in
set_option maxHeartbeats 1000000 in
theorem l14Rest_any (x : Value) (B : Nat) (L : List HthT) (hd n : Int) (w : World) (h : Hths w B x L) (hl : L.length ≤ 144) (hin : inP (btF L hd) n) (hn : 0 ≤ n) (hn2 : n ≤ 1000) :
    Calls Try.prog 56 #[x, .int .i64 hd, .int .i64 n] w fun e w' => e = .returned (.int .i64 (restG (btF L hd) n)) ∧ Below w.heap.size w w' := by
  obtain ⟨a, c, rfl, hx⟩ := hth_sl h
  have HX := Lib.hid hx
  have HTK := Lib.hid (fun k (hk : k < L.length) => hth_take L k hk)
  have HTA : Hid (L.take L.length = L) := Lib.hid (List.take_length)
  have HY := Lib.hid (fun (M : List HthT) (y : HthT) (e : y.2.2.1 = hd) => btF_yes M y hd e)
  have HNO := Lib.hid (fun (M : List HthT) (y : HthT) (e : ¬ y.2.2.1 = hd) => btF_no M y hd e)
  have HBL := Lib.hid (fun k => show (btF (L.take k) hd).length ≤ 144 from by have h1 := btF_len (L.take k) hd; have := List.length_take_le' k L; omega)
  have HG := Lib.hid (fun k (hk : k < (btF L hd).length ∨ k = 0) => gapK_bound (m := 1000) (by omega) (fun k hk => by have := hin k hk; omega) k hk)
  have HS := Lib.hid (fun k => gapK_step (btF L hd) k)
  have HIN := Lib.hid hin
  have HR0 : Hid ((btF L hd).length = 0 → restG (btF L hd) n = 0) := Lib.hid fun e => by rw [restG, if_pos e]
  have HR1 : Hid (∀ k, k + 1 = (btF L hd).length → restG (btF L hd) n = max (gapK (btF L hd) k) ((btF L hd).getD 0 0 + n - (btF L hd).getD k 0)) := Lib.hid fun k e => by
    rw [restG, if_neg (by omega), wrapG, show (btF L hd).length - 1 = k by omega]
  have hE : Ints (w.alloc (.cells #[] 2)) w.heap.size (.slice (some ⟨w.heap.size, 0, none⟩) 0 0) (btF (L.take 0) hd) := World.ownsRow_lit w #[] 0 (Nat.le_refl _) (by simp [maxLen]) rfl
  have BE : Below w.heap.size w (w.alloc (.cells #[] 2)) := (Below.refl _ _).alloc (Nat.le_refl _) _
  clear h hx hin
  generalize hln : L.length = ln at *
  clear hln
  go_enter Try.func56, Try.ntmps56
  go_wp2
  go_loopw [7, 8] (fun x i wr => ∃ k : Nat, k ≤ ln ∧ i = .int .i64 k ∧ Ints wr w.heap.size x (btF (L.take k) hd) ∧ Below w.heap.size w wr) (fun _ i _ => ln - (intOf i).toNat)
  case atStart => exact ⟨0, Nat.zero_le _, rfl, hE, BE⟩
  case round =>
    obtain ⟨k, hk, rfl, hi, hb⟩ := hrel
    clear hE BE
    by_cases hlt : k < ln
    · obtain ⟨g, rfl, hg, _, hf⟩ := HX.out k hlt
      obtain ⟨c0, c1, c2, c3⟩ := hf.below hb hg
      have htk := HTK.out k hlt
      have hbl := HBL.out k
      generalize hy : L.getD k ht0 = y at *
      clear hy
      have hyes := HY.out (L.take k) y
      have hno := HNO.out (L.take k) y
      rw [← htk] at hyes hno
      obtain ⟨y0, y1, y2, y3⟩ := y
      simp only at c0 c1 c2 c3 hyes hno
      have hbs := hb.size
      by_cases he : y2 = hd
      · have hs := Lib.hid (hyes he)
        have heq : (y2 == hd) = true := by simpa using he
        clear HX HTK HTA HY HNO HBL HG HS HIN HR0 HR1 htk hyes hno hf he
        go_wp2_with (at_builtin; refine append_int _ rfl _ _ rfl _ _ _ rfl hi y0 rfl (by omega) hbs ?_; intro v' w3 hi3 hg3; refine Hid.out ?_)
        have hb3 := hi.below_grown hb hbs hg3
        rw [← hs.out] at hi3
        clear hg3 hi hb
        refine Lib.hid ?_
        go_wp2
        go_roundw
        case rel => exact ⟨k + 1, by omega, by go_num, hi3, hb3⟩
        case measure => simp [intOf]; omega
      · have hs := Lib.hid (hno he)
        have heq : (y2 == hd) = false := by simpa using he
        clear HX HTK HTA HY HNO HBL HG HS HIN HR0 HR1 htk hyes hno hf he
        go_wp2
        go_roundw
        case rel => exact ⟨k + 1, by omega, by go_num, by rw [hs.out]; exact hi, hb⟩
        case measure => simp [intOf]; omega
    · obtain rfl : k = ln := by omega
      rw [HTA.out] at hi
      have hbl := HBL.out k
      rw [HTA.out] at hbl
      obtain ⟨va, vc, rfl⟩ := ints_slH hi
      have HI := Lib.hid (fun j (hj : j < (btF L hd).length) => show ∃ g, va = some ⟨g, 0, none⟩ ∧ wr.cell? ⟨g, j, none⟩ = some (.int .i64 ((btF L hd).getD j 0)) from by
        obtain ⟨g, c', e, _⟩ := hi.shape2 (by omega)
        cases e
        exact ⟨g, rfl, hi.cell j hj⟩)
      clear HX HTK HTA HY HNO HBL hi
      generalize hbse : btF L hd = bs at *
      have HBS := Lib.hid hbse
      clear hbse
      generalize hm : bs.length = m at *
      have HM := Lib.hid hm
      clear hm
      go_wp2
      go_loop [9, 10, 11] (fun t i _ => ∃ k' : Nat, k' ≤ m ∧ i = .int .i64 k' ∧ ((k' < m ∧ t = .int .i64 (gapK bs k')) ∨ (k' = m ∧ t = .int .i64 (restG bs n)))) (fun _ i _ => m - (intOf i).toNat)
      case atStart =>
        by_cases e : m = 0
        · exact ⟨0, Nat.zero_le _, rfl, .inr ⟨e.symm, by rw [HR0.out e]⟩⟩
        · exact ⟨0, Nat.zero_le _, rfl, .inl ⟨by omega, rfl⟩⟩
      case round =>
        obtain ⟨q, hq, rfl, ⟨hlt2, rfl⟩ | ⟨rfl, rfl⟩⟩ := hrel
        · obtain ⟨g, rfl, cq⟩ := HI.out q hlt2
          obtain ⟨g', e0, cz⟩ := HI.out 0 (by omega)
          cases e0
          obtain ⟨bq1, bq2⟩ := HIN.out q (by rw [HM.out]; omega)
          obtain ⟨bz1, bz2⟩ := HIN.out 0 (by rw [HM.out]; omega)
          obtain ⟨hgk1, hgk2⟩ := HG.out q (.inl hlt2)
          by_cases hlt3 : q + 1 < m
          · obtain ⟨g', e0, cn⟩ := HI.out (q + 1) hlt3
            cases e0
            obtain ⟨bn1, bn2⟩ := HIN.out (q + 1) (by rw [HM.out]; omega)
            have hs := Lib.hid (HS.out q)
            clear HI HIN HG HS HR0 HR1
            generalize bs.getD (q + 1) 0 = yn at *
            generalize bs.getD q 0 = yq at *
            generalize bs.getD 0 0 = yz at *
            generalize gapK bs q = gk at *
            go_wp2_with fail
            refine (l00Max_any _ _ _).mono ?_
            rintro e w' ⟨rfl, rfl⟩
            go_wp2
            go_round
            case rel => exact ⟨q + 1, by omega, by go_num, .inl ⟨hlt3, by rw [hs.out]⟩⟩
            case measure => simp [intOf]; omega
          · have hs := Lib.hid (HR1.out q (by omega))
            clear HI HIN HG HS HR0 HR1
            generalize bs.getD q 0 = yq at *
            generalize bs.getD 0 0 = yz at *
            generalize gapK bs q = gk at *
            go_wp2_with fail
            refine (l00Max_any _ _ _).mono ?_
            rintro e w' ⟨rfl, rfl⟩
            go_wp2
            go_round
            case rel => exact ⟨q + 1, by omega, by go_num, .inr ⟨by omega, by rw [hs.out]⟩⟩
            case measure => simp [intOf]; omega
        · clear HI HIN HG HS HR0 HR1
          go_wp2
          go_ret
          exact ⟨by rw [HBS.out]; first | done | rfl, hb⟩

set_option maxRecDepth 10000 in
set_option maxHeartbeats 1000000 in
theorem restsOf_spec (v u : Value) (B C : Nat) (p o : List Int) (w : World) (h : Ints w B v p) (k : Ints w C u o) :
    Calls Try.prog 22 #[v, u] w fun e w' => ∃ x, e = .returned (.tuple #[x, .int .i64 (poC p o)]) ∧ Ints w' w.heap.size x (rsA p o) ∧ Below w.heap.size w w' := by
  have HC := l14Code_any v u B C p o w h k
  cases hq : okPO p o with
  | false =>
    rw [rsA_false hq, poC_false hq]
    rw [poC_false hq] at HC
    clear h k
    go_enter Try.func22, Try.ntmps22
    go_wp2_with fail
    refine HC.mono ?_
    rintro e w1 ⟨rfl, b1⟩
    go_wp2
    go_ret2
    exact ⟨_, rfl, Ints.nil _ _, b1⟩
  | true =>
    obtain ⟨hp, ho⟩ := okPO_parts hq
    obtain ⟨lp1, lp2⟩ := okPat_len hp
    obtain ⟨ol1, ol2⟩ := okH_len ho
    obtain ⟨c1, c4⟩ := okH_cnt ho
    obtain ⟨cp1, cp2⟩ := cpN_bound hq
    have hlen := thH_len hq
    have HT := fun W (hW : Below w.heap.size w W) => l14Throws_any v u B C p o W (h.below hW) (k.below hW) hq
    have HCM := Lib.hid (fun W (hW : Below w.heap.size w W) => l14Common_any v u B C p o W (h.below hW) (k.below hW) lp1 lp2 ol1 ol2)
    have HR := Lib.hid (fun (x : Value) (D : Nat) (hd : Int) W (hx : Hths W D x (thH p o)) => l14Rest_any x D (thH p o) hd (cpN p o : Nat) W hx hlen (btF_in hd) (by omega) (by omega))
    obtain ⟨g, cap, rfl, _, hg, _, _⟩ := k.shape2 ol1
    have HN := Lib.hid (fun W (hW : Below w.heap.size w W) => l14Count_row g o.length cap C o W (k.below hW) rfl (by omega) (fun k hk => by have := okH_at ho k hk; omega))
    obtain ⟨c, hc⟩ : ∃ c : Nat, cntH o = c := ⟨(cntH o).toNat, by omega⟩
    have HTK := Lib.hid (fun k (hk : k < c) => rsL_take p o c k hk)
    have HTA : Hid ((rsL p o c).take c = rsL p o c) := Lib.hid (by rw [List.take_of_length_le (by rw [rsL_len]; exact Nat.le_refl _)])
    have HTL := Lib.hid (fun k => show ((rsL p o c).take k).length ≤ 1000 from by have := List.length_take_le' k (rsL p o c); rw [rsL_len] at this; omega)
    rw [rsA_true hq, poC_true hq]
    rw [poC_true hq] at HC
    rw [hc] at HN c1 c4
    rw [hc, Int.toNat_natCast]
    clear h k hq hp ho hc
    go_enter Try.func22, Try.ntmps22
    go_wp2_with fail
    refine HC.mono ?_
    rintro e w1 ⟨rfl, b1⟩
    have HTT := HT _ b1
    clear HC HT
    go_wp2_with fail
    refine HTT.mono ?_
    rintro e w2 ⟨x, rfl, i2, b2⟩
    have B2 := b1.trans (b2.mono b1.size)
    have HX := Lib.hid (fun W (hW : Below w2.heap.size w2 W) => i2.below hW)
    have hE : Ints (w2.alloc (.cells #[] 2)) w2.heap.size (.slice (some ⟨w2.heap.size, 0, none⟩) 0 0) ((rsL p o c).take 0) := World.ownsRow_lit w2 #[] 0 (Nat.le_refl _) (by simp [maxLen]) rfl
    have BE : Below w2.heap.size w2 (w2.alloc (.cells #[] 2)) := (Below.refl _ _).alloc (Nat.le_refl _) _
    have hs2 := B2.size
    clear HTT i2 b1 b2
    go_wp2
    go_loopw [8, 9] (fun x i wr => ∃ k : Nat, k ≤ c ∧ i = .int .i64 k ∧ Ints wr w2.heap.size x ((rsL p o c).take k) ∧ Below w2.heap.size w2 wr) (fun _ i _ => c - (intOf i).toNat)
    case atStart => exact ⟨0, Nat.zero_le _, rfl, hE, BE⟩
    case round =>
      obtain ⟨k, hk, rfl, hi, hb⟩ := hrel
      clear hE BE
      have hbw := B2.trans (hb.mono hs2)
      have HNN := HN.out wr hbw
      by_cases hlt : k < c
      · have HCC := HCM.out wr hbw
        have HRR := HR.out x _ (k : Int) wr (HX.out wr hb)
        have htk := Lib.hid (HTK.out k hlt)
        have htl := HTL.out k
        clear HCM HR HN HTK HTA HTL HX
        generalize restG (btF (thH p o) (k : Int)) (cpN p o : Nat) = z at *
        go_wp2_with fail
        refine HNN.mono ?_
        rintro e w3 ⟨rfl, rfl⟩
        go_wp2_with fail
        refine HCC.mono ?_
        rintro e w3 ⟨rfl, rfl⟩
        go_wp2_with fail
        refine HRR.mono ?_
        rintro e w3 ⟨rfl, b3⟩
        have hi3 := hi.below b3
        have hb3 := hb.trans (b3.mono hb.size)
        have hbs := hb3.size
        clear hi hb HNN HCC HRR
        go_wp2_with (at_builtin; refine append_int _ rfl _ _ rfl _ _ _ rfl hi3 z rfl (by omega) hbs ?_; intro v' w4 hi4 hg4; refine Hid.out ?_)
        have hb4 := hi3.below_grown hb3 hbs hg4
        rw [← htk.out] at hi4
        clear hg4 hi3 hb3
        refine Lib.hid ?_
        go_wp2
        go_roundw
        case rel => exact ⟨k + 1, by omega, by go_num, hi4, hb4⟩
        case measure => simp [intOf]; omega
      · obtain rfl : k = c := by omega
        rw [HTA.out] at hi
        clear HCM HR HN HTK HTA HTL HX
        go_wp2_with fail
        refine HNN.mono ?_
        rintro e w3 ⟨rfl, rfl⟩
        go_wp2
        go_ret2
        exact ⟨_, rfl, hi.mono hs2, hbw⟩
end Go.Proofs.Ytlpeigeadjojnaa
