/- One orbit: OrbitOf, OrbitPattern, the model's and the program's. No conditions. -/
import Derived.Test.YtlpeigeadjojnabOrM
import Derived.Test.YtlpeigeadjojnabImplThr
namespace Go.Proofs.Ytlpeigeadjojnab
open Go.RowKit
set_option linter.unusedSimpArgs false
set_option linter.unusedVariables false

/-- the pattern of the first k throws of an orbit -/
def aloneK (p : List Int) (i k : Nat) : List Int := (List.range p.length).map fun j => if ((wayL p i).take k).contains j then p.getD j 0 else 0
def aloneL (p : List Int) (i : Nat) : List Int := aloneK p i (wayL p i).length
theorem aloneK_len (p : List Int) (i k : Nat) : (aloneK p i k).length = p.length := by simp [aloneK]
theorem aloneK_zero (p : List Int) (i : Nat) : aloneK p i 0 = List.replicate p.length 0 := by
  apply List.ext_getElem
  · simp [aloneK]
  · intro j h1 h2
    simp [aloneK]
theorem aloneK_succ {p : List Int} {i k : Nat} (hk : k < (wayL p i).length) : (aloneK p i k).set ((wayL p i).getD k 0) (p.getD ((wayL p i).getD k 0) 0) = aloneK p i (k + 1) := by
  have ht : (wayL p i).take (k + 1) = (wayL p i).take k ++ [(wayL p i).getD k 0] := by
    rw [List.take_succ_eq_append_getElem hk]
    simp [hk]
  apply List.ext_getElem
  · simp [aloneK]
  · intro j h1 h2
    simp only [aloneK, List.getElem_set, List.getElem_map, List.getElem_range, ht, List.contains_append]
    by_cases e : (wayL p i).getD k 0 = j
    · rw [if_pos e, if_pos (by rw [e]; simp), e]
    · rw [if_neg e]
      have e2 : ([(wayL p i).getD k 0].contains j) = false := by
        rw [← Bool.not_eq_true, List.contains_iff_mem]
        intro h
        exact e (List.mem_singleton.1 h).symm
      rw [e2, Bool.or_false]
/-- the code and the answer of OrbitPattern -/
def opC (p : List Int) (o : Int) : Int := if okPat p then (if inB o 0 (((fsts p).length : Int) - 1) then 0 else 2) else 1
def opA (p : List Int) (o : Int) : List Int := if opC p o = 0 then aloneL p ((fsts p).getD o.toNat 0) else []
theorem opC_bad {p : List Int} (o : Int) (h : okPat p = false) : opC p o = 1 := by simp [opC, h]
theorem opC_far {p : List Int} {o : Int} (h : okPat p = true) (h2 : inB o 0 (((fsts p).length : Int) - 1) = false) : opC p o = 2 := by simp [opC, h, h2]
theorem opC_ok {p : List Int} {o : Int} (h : okPat p = true) (h2 : inB o 0 (((fsts p).length : Int) - 1) = true) : opC p o = 0 := by simp [opC, h, h2]
theorem opA_len (p : List Int) (o : Int) : (opA p o).length ≤ 12 := by
  unfold opA
  by_cases h : okPat p = true
  · split
    · rw [aloneL, aloneK_len]; exact (okPat_len h).2
    · simp
  · rw [opC_bad o (by simpa using h), if_neg (by decide)]; simp
theorem ints_slOr {w : World} {B : Nat} {v : Value} {xs : List Int} (h : Ints w B v xs) : ∃ a cap, v = .slice a xs.length cap := by
  rcases h.shape with ⟨rfl, rfl⟩ | ⟨g, cap, rfl, _⟩
  · exact ⟨_, _, rfl⟩
  · exact ⟨_, _, rfl⟩
/-- which of the first throws is that of a throw's orbit -/
def ixO (p : List Int) (i : Nat) : Nat := match (List.range (fsts p).length).find? (fun k => (fsts p).getD k 0 == lst p i) with | some k => k | none => 0
theorem ixO_spec {p : List Int} (hok : okPat p = true) {i : Nat} (hi : i < p.length) : ixO p i < (fsts p).length ∧ (fsts p).getD (ixO p i) 0 = lst p i ∧ ∀ k, k < ixO p i → (fsts p).getD k 0 ≠ lst p i := by
  have hm : lst p i ∈ fsts p := fsts_mem.2 ⟨(lst_spec hok hi).1, lst_lst hok hi⟩
  unfold ixO
  cases h : (List.range (fsts p).length).find? (fun k => (fsts p).getD k 0 == lst p i) with
  | none =>
    rw [List.find?_eq_none] at h
    obtain ⟨k, hk, he⟩ := List.getElem_of_mem hm
    have := h k (List.mem_range.2 hk)
    simp [hk, he] at this
  | some k =>
    rw [List.find?_range_eq_some] at h
    obtain ⟨h1, h2, h3⟩ := h
    refine ⟨List.mem_range.1 h2, by simpa using h1, fun j hj => ?_⟩
    have := h3 j hj
    simpa using this
/-- the code and the answer of OrbitOf -/
def ooC (p : List Int) (i : Int) : Int := if okPat p then (if inB i 0 ((p.length : Int) - 1) then 0 else 2) else 1
def ooA (p : List Int) (i : Int) : Int := if ooC p i = 0 then (ixO p i.toNat : Nat) else 0
theorem ooC_bad {p : List Int} (o : Int) (h : okPat p = false) : ooC p o = 1 := by simp [ooC, h]
theorem ooC_far {p : List Int} {o : Int} (h : okPat p = true) (h2 : inB o 0 ((p.length : Int) - 1) = false) : ooC p o = 2 := by simp [ooC, h, h2]
theorem ooC_ok {p : List Int} {o : Int} (h : okPat p = true) (h2 : inB o 0 ((p.length : Int) - 1) = true) : ooC p o = 0 := by simp [ooC, h, h2]

set_option maxRecDepth 10000 in
theorem index_hitO (g n cap B i : Nat) (x : Int) (L : List Int) (w : World) (h : Ints w B (.slice (some ⟨g, 0, none⟩) n cap) L) (hn : n = L.length) (hn2 : n ≤ 1000000) (hi : i < n) (he : L.getD i 0 = x) (hlt : ∀ j, j < i → L.getD j 0 ≠ x) :
    Calls Try.prog 34 #[.slice (some ⟨g, 0, none⟩) n cap, .int .i64 x] w fun e w' => e = .returned (.int .i64 i) ∧ w = w' := by
  have HC := Lib.hid (fun j (hj : j < n) => h.cell j (by omega))
  have HLT := Lib.hid hlt
  have HE := Lib.hid he
  clear h hn hlt he
  go_enter Try.func34, Try.ntmps34
  go_wp2
  go_loop [8] (fun m => ∃ k : Nat, k ≤ i ∧ m = .int .i64 k) (fun m => n - (intOf m).toNat)
  case atStart => exact ⟨0, Nat.zero_le _, rfl⟩
  case round =>
    obtain ⟨k, hk, rfl⟩ := hrel
    have hkn : k < n := by omega
    have hc := HC.out k hkn
    by_cases hlt : k < i
    · have hne : (x == L.getD k 0) = false := by
        have := HLT.out k hlt
        simp only [beq_eq_false_iff_ne]
        exact fun e => this e.symm
      have hne2 : (L.getD k 0 == x) = false := by
        have := HLT.out k hlt
        simpa using this
      clear HC HLT HE
      generalize L.getD k 0 = y at *
      go_wp2
      go_round
      case rel => exact ⟨k + 1, by omega, by go_num⟩
      case measure => simp [intOf]; omega
    · obtain rfl : k = i := by omega
      rw [HE.out] at hc
      clear HC HLT HE
      go_wp2
      go_ret
      exact ⟨rfl, rfl⟩

theorem ints_has {l : List Nat} {x : Nat} : (ints l).contains (x : Int) = l.contains x := by
  rw [Bool.eq_iff_iff, List.contains_iff_mem, List.contains_iff_mem]
  constructor
  · intro h
    obtain ⟨y, hy, he⟩ := List.mem_map.1 h
    have : y = x := Int.ofNat.inj he
    rw [← this]; exact hy
  · intro h
    exact List.mem_map.2 ⟨x, h, rfl⟩
/-- a throw lies on the way of a first throw just if that is the first one of its orbit -/
theorem has_way {p : List Int} (hok : okPat p = true) {i k : Nat} (hi : i < p.length) (hk : k < (fsts p).length) : (ints (wayL p ((fsts p).getD k 0))).contains (i : Int) = decide ((fsts p).getD k 0 = lst p i) := by
  obtain ⟨h1, h2⟩ := fsts_at hk
  rw [ints_has, Bool.eq_iff_iff, List.contains_iff_mem, wayL_mem hok h1, decide_eq_true_eq, ← lst_eq hok h1 hi, h2]

set_option maxRecDepth 10000 in
set_option maxHeartbeats 1000000 in
theorem orbitOf_impl (v : Value) (B : Nat) (p : List Int) (i : Int) (w : World) (h : Ints w B v p) :
    Calls Try.prog 16 #[v, .int .i64 i] w fun e w' => e = .returned (.tuple #[.int .i64 (ooA p i), .int .i64 (ooC p i)]) ∧ Below w.heap.size w w' := by
  unfold ooA
  cases hok : okPat p with
  | false =>
    rw [ooC_bad _ hok, if_neg (by decide)]
    go_enter Try.func16, Try.ntmps16
    go_wp2_with fail
    refine (validPattern_impl v B p _ h).mono ?_
    rintro e w' ⟨rfl, hb⟩
    rw [hok]
    go_wp2
    go_ret2
    exact ⟨rfl, hb⟩
  | true =>
    obtain ⟨va, vc, rfl⟩ := ints_slOr h
    have hlen := okPat_len hok
    have HO := Lib.hid (fun W (hW : Below w.heap.size w W) => orbitsOf_any _ B p W (h.below hW) hok)
    have HIX := Lib.hid (fun W => isIndex_any va p.length vc i W (by omega))
    cases hin : inB i 0 ((p.length : Int) - 1) with
    | false =>
      rw [ooC_far hok hin, if_neg (by decide)]
      rw [hin] at HIX
      go_enter Try.func16, Try.ntmps16
      go_wp2_with fail
      refine (validPattern_impl _ B p _ h).mono ?_
      rintro e w1 ⟨rfl, hb⟩
      rw [hok]
      clear h hok hin
      go_wp2_with fail
      refine (HO.out _ hb).mono ?_
      rintro e w2 ⟨g, u, rfl, hL, hk, b2⟩
      clear HO hL hk
      go_wp2_with fail
      refine (HIX.out _).mono ?_
      rintro e w3 ⟨rfl, rfl⟩
      go_wp2
      go_ret2
      exact ⟨rfl, (hb.trans (b2.mono hb.size)).alloc (by have := hb.size; have := b2.size; omega) _⟩
    | true =>
      rw [ooC_ok hok hin, if_pos rfl]
      rw [hin] at HIX
      obtain ⟨hb1, hb2⟩ := inB_iff.1 hin
      obtain ⟨j, rfl⟩ : ∃ j : Nat, i = j := ⟨i.toNat, by omega⟩
      rw [Int.toNat_natCast]
      have hj : j < p.length := by omega
      obtain ⟨x1, x2, x3⟩ := ixO_spec hok hj
      have HFS := Lib.hid (fun (g : Nat) u W (hL : Links p u p.length) (hk : Lks W 0 g p.length p.length u) => firsts_any (.slice va p.length vc) 0 g u p W ⟨_, _, _, rfl⟩ hL hk hok)
      have HFI := Lib.hid (fun (g : Nat) u W (hL : Links p u p.length) (hk : Lks W 0 g p.length p.length u) => first_any 0 g p.length p.length u j (lst p j) W hk hL.down hj (hL.root hok hj))
      have HLL := (lst_spec hok hj).1
      have HIS := Lib.hid (fun (q : Nat) (hq : q < (fsts p).length) => ints_at (fsts p) q hq)
      have HX2 := Lib.hid x2
      have HX3 := Lib.hid x3
      have hfl := fsts_len p
      clear x2 x3
      obtain ⟨K, hK⟩ : ∃ K, ixO p j = K := ⟨_, rfl⟩
      rw [hK] at x1 HX2 HX3 ⊢
      clear hK
      go_enter Try.func16, Try.ntmps16
      go_wp2_with fail
      refine (validPattern_impl _ B p _ h).mono ?_
      rintro e w1 ⟨rfl, hb⟩
      rw [hok]
      clear h hok hin
      go_wp2_with fail
      refine (HO.out _ hb).mono ?_
      rintro e w2 ⟨g, u, rfl, hL, hk, b2⟩
      have B2 := hb.trans (b2.mono hb.size)
      have hk0 : Lks w2 0 g p.length p.length u := hk.mono (Nat.zero_le _)
      have hk1 := hk0.alloc (.cells #[.slice va p.length vc, .slice (some ⟨g, 0, none⟩) p.length p.length] 52)
      have B3 := B2.alloc B2.size (.cells #[.slice va p.length vc, .slice (some ⟨g, 0, none⟩) p.length p.length] 52)
      have HF2 := HFI.out g u _ hL hk1
      have HF3 := HFS.out g u _ hL hk1
      obtain ⟨c0, c1⟩ := Lks.two hk1 (lst p j) HLL
      have Q3 := Blk.made w2 #[.slice va p.length vc, .slice (some ⟨g, 0, none⟩) p.length p.length] 52
      have HF4 := Lib.hid (fun W (hW : Below (w2.alloc (.cells #[.slice va p.length vc, .slice (some ⟨g, 0, none⟩) p.length p.length] 52)).heap.size (w2.alloc (.cells #[.slice va p.length vc, .slice (some ⟨g, 0, none⟩) p.length p.length] 52)) W) =>
        show Calls Try.prog 35 #[.agg #[.slice va p.length vc, .slice (some ⟨g, 0, none⟩) p.length p.length]] W fun e W' => ∃ g' c', e = .returned (.slice (some ⟨g', 0, none⟩) (fsts p).length c') ∧ Ints W' 0 (.slice (some ⟨g', 0, none⟩) (fsts p).length c') (ints (fsts p)) ∧ Below (w2.alloc (.cells #[.slice va p.length vc, .slice (some ⟨g, 0, none⟩) p.length p.length] 52)).heap.size (w2.alloc (.cells #[.slice va p.length vc, .slice (some ⟨g, 0, none⟩) p.length p.length] 52)) W' from by
          refine (HFS.out g u W hL (hk1.below hW)).mono ?_
          rintro e W' ⟨x, rfl, hx, hb'⟩
          obtain ⟨g', c', rfl, _, _, _, _⟩ := hx.shape2 (by rw [ints_len]; omega)
          rw [ints_len] at hx ⊢
          exact ⟨g', c', rfl, hx.mono (Nat.zero_le _), hW.trans (hb'.mono hW.size)⟩)
      have HI4 := Lib.hid (fun W (g' c' : Nat) (hx : Ints W 0 (.slice (some ⟨g', 0, none⟩) (fsts p).length c') (ints (fsts p))) => index_hitO g' (fsts p).length c' 0 K (lst p j : Nat) (ints (fsts p)) W hx (by rw [ints_len]) (by omega) x1 (by rw [HIS.out K x1, HX2.out]) (fun q hq => by rw [HIS.out q (by omega)]; intro he; exact HX3.out q hq (by omega)))
      have HCE := Lib.hid (fun W (hW : Below (w2.alloc (.cells #[.slice va p.length vc, .slice (some ⟨g, 0, none⟩) p.length p.length] 52)).heap.size (w2.alloc (.cells #[.slice va p.length vc, .slice (some ⟨g, 0, none⟩) p.length p.length] 52)) W) =>
        show W.cell? ⟨w2.heap.size, 0, none⟩ = some (.slice va p.length vc) ∧ W.cell? ⟨w2.heap.size, 1, none⟩ = some (.slice (some ⟨g, 0, none⟩) p.length p.length) ∧ W.cell? ⟨g, lst p j * 2, none⟩ = some (.int .i64 (lst p j : Nat)) from
          ⟨(Q3.below hW (by simp)).cell 0, (Q3.below hW (by simp)).cell 1, (hW.cell (p := ⟨g, lst p j * 2, none⟩) (by have := cell_block c0; simpa using this)).trans c0⟩)
      have hk1' := c0
      clear HO hL hk hk0 hk1 HFI HFS c0 c1 Q3 HF3 HIS HX2 HX3
      generalize lst p j = L at *
      generalize (fsts p).length = n at *
      go_wp2_with fail
      refine (HIX.out _).mono ?_
      rintro e w3 ⟨rfl, rfl⟩
      go_wp2_with fail
      refine HF2.mono ?_
      rintro e w3 ⟨rfl, rfl⟩
      clear HIX HF2
      obtain ⟨W0, hW0⟩ : ∃ W0, w2.alloc (.cells #[.slice va p.length vc, .slice (some ⟨g, 0, none⟩) p.length p.length] 52) = W0 := ⟨_, rfl⟩
      rw [hW0] at HF4 HCE B3 hk1'
      have HW0 := Lib.hid hW0
      clear hW0
      have BW0 := Below.refl W0.heap.size W0
      go_wp2
      rw [HW0.out]
      go_region_held3 (fun W => Below W0.heap.size W0 W ∧ W.cell? ⟨w2.heap.size, 0, none⟩ = some (.slice va p.length vc) ∧ W.cell? ⟨w2.heap.size, 1, none⟩ = some (.slice (some ⟨g, 0, none⟩) p.length p.length) ∧ W.cell? ⟨g, L * 2, none⟩ = some (.int .i64 (L : Nat))) (refine ⟨?_, HCE.out _ ?_⟩ <;> (repeat (first | assumption | exact Below.refl _ _ | refine Below.drew ?_ | refine below_drewN ?_ _))) (first | (go_at_call 35; (with_reducible refine (HF4.out _ ?_).mono ?_); (repeat (first | assumption | exact Below.refl _ _ | refine Below.drew ?_ | refine below_drewN ?_ _)); rintro e x5 ⟨g5, c5, rfl, i5, y5⟩) | (go_at_call 34; (with_reducible refine (HI4.out _ _ _ ?_).mono ?_); (exact i5); rintro e x6 ⟨rfl, rfl⟩))
      all_goals go_wp2
      all_goals go_ret2
      all_goals exact ⟨rfl, B3.trans ((by repeat (first | assumption | exact Below.refl _ _ | refine Below.drew ?_ | refine below_drewN ?_ _) : Below W0.heap.size W0 _).mono B3.size)⟩
end Go.Proofs.Ytlpeigeadjojnab
