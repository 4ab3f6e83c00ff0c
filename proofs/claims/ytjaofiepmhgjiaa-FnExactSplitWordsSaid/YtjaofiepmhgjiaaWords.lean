/- SplitWords, the model's and the program's: both answer the words of a text. Condition: at most 2^20 bytes. -/
import Derived.Test.YtjaofiepmhgjiaaStrs
import Derived.Test.YtjaofiepmhgjiaaFields
import Derived.Test.YtjaofiepmhgjiaaShelf
namespace Go.Proofs.Ytjaofiepmhgjiaa
open Go.RowKit Go.Shelf
set_option linter.unusedSimpArgs false
set_option linter.unusedVariables false

theorem cutsF_len (s : ByteArray) : ∀ (f i b : Nat) (acc : List (Nat × Nat)), (cutsF s f i b acc).length ≤ acc.length + f + 1
  | 0, i, b, acc => by simp [cutsF]
  | f + 1, i, b, acc => by
    unfold cutsF
    split
    · split
      · have := cutsF_len s f (i + 1) (i + 1) (acc ++ [(b, i)]); simp at this; omega
      · have := cutsF_len s f (i + 1) b acc; omega
    · simp
theorem cuts_len (s : ByteArray) : (cuts s).length ≤ s.size + 1 := by
  have := cutsF_len s s.size 0 0 []
  simpa [cuts] using this
def piecesL (s : ByteArray) : List ByteArray := (cuts s).map (piece s)
theorem cutsF_ok (s : ByteArray) : ∀ (f i b : Nat) (acc : List (Nat × Nat)), i ≤ s.size → b ≤ i → (∀ x ∈ acc, x.1 ≤ x.2 ∧ x.2 ≤ s.size) → ∀ x ∈ cutsF s f i b acc, x.1 ≤ x.2 ∧ x.2 ≤ s.size
  | 0, i, b, acc, hi, hb, ha => by
    intro x hx
    simp [cutsF] at hx
    rcases hx with hx | rfl
    · exact ha x hx
    · exact ⟨by show b ≤ s.size; omega, Nat.le_refl _⟩
  | f + 1, i, b, acc, hi, hb, ha => by
    unfold cutsF
    split
    · split
      · refine cutsF_ok s f (i + 1) (i + 1) _ (by omega) (Nat.le_refl _) (fun x hx => ?_)
        simp at hx
        rcases hx with hx | rfl
        · exact ha x hx
        · exact ⟨hb, hi⟩
      · exact cutsF_ok s f (i + 1) b acc (by omega) (by omega) ha
    · intro x hx
      simp at hx
      rcases hx with hx | rfl
      · exact ha x hx
      · exact ⟨by show b ≤ s.size; omega, Nat.le_refl _⟩
theorem piece_empty (s : ByteArray) (x : Nat × Nat) (h : x.1 ≤ x.2 ∧ x.2 ≤ s.size) : (piece s x = ⟨#[]⟩) ↔ full x = false := by
  have hsz : (piece s x).size = x.2 - x.1 := by
    show (s.extract x.1 x.2).size = _
    rw [ByteArray.size_extract]; omega
  constructor
  · intro e
    rw [e] at hsz
    have h0 : (⟨#[]⟩ : ByteArray).size = 0 := rfl
    simp only [full, decide_eq_false_iff_not]
    omega
  · intro e
    simp only [full, decide_eq_false_iff_not] at e
    have h0 : (piece s x).size = 0 := by omega
    apply ByteArray.ext
    exact Array.eq_empty_of_size_eq_zero h0

theorem l01Split_any (s : ByteArray) (w : World) (hs : s.size ≤ 1048576) :
    Calls Try.prog 9 #[.string s, .int .u8 32] w fun e w' => ∃ v, e = .returned v ∧ Strs w' w.heap.size v (piecesL s) ∧ Below w.heap.size w w' := by
  go_enter Try.func9, Try.ntmps9
  go_wp2
  go_loopw [5, 6, 7] (fun v fr i wr => ∃ (k b : Nat) (acc : List (Nat × Nat)), k ≤ s.size ∧ b ≤ k ∧ i = .int .i64 k ∧ fr = .int .i64 b ∧ acc.length ≤ k ∧ Hid (cutsF s (s.size - k) k b acc = cuts s) ∧ Strs wr w.heap.size v (acc.map (piece s)) ∧ Below w.heap.size w wr) (fun _ _ i _ => s.size - (intOf i).toNat)
  case atStart =>
    exact ⟨0, 0, [], Nat.zero_le _, Nat.le_refl _, rfl, rfl, Nat.le_refl _, rfl, Own.empty _ _ _ (Nat.le_refl _), (Below.refl _ _).alloc (Nat.le_refl _) _⟩
  case round =>
    obtain ⟨k, b, acc, hk, hbk, rfl, rfl, hal, hcut, hi, hb⟩ := hrel
    have hBs := hb.size
    have hlen : (acc.map (piece s)).length ≤ 1000000000 := by simp; omega
    by_cases hlt : k < s.size
    · have hc := hcut.out
      obtain ⟨f, hf⟩ : ∃ f, s.size - k = f + 1 := ⟨s.size - k - 1, by omega⟩
      have hf' : f = s.size - (k + 1) := by omega
      rw [hf] at hc
      by_cases h32 : s.get! k = 32
      · rw [cutsF_blank s f k b acc hlt h32, hf'] at hc
        have hg : ((s[k]'hlt).toNat : Int) = 32 := by rw [← get_getElem s k hlt, h32]; rfl
        have HC := Lib.hid hc
        clear hc hf hf' h32
        go_wp2_with (at_builtin; refine append_one _ rfl _ rfl Try.infoS rfl (by decide) (fun _ => rfl) _ _ rfl rfl hi (piece s (b, k)) rfl hlen hBs ?_; intro v' w1 hi1 hg1; refine Hid.out ?_)
        have hb1 := hi.below_grown hb hBs hg1
        rw [show acc.map (piece s) ++ [piece s (b, k)] = (acc ++ [(b, k)]).map (piece s) by simp] at hi1
        clear hg1 hi hb
        refine Lib.hid ?_
        go_wp2
        go_roundw
        case rel => exact ⟨k + 1, k + 1, acc ++ [(b, k)], by omega, Nat.le_refl _, by go_num, by go_num, by simp; omega, HC, hi1, hb1⟩
        case measure => simp [intOf]; omega
      · rw [cutsF_other s f k b acc hlt h32, hf'] at hc
        have hg : ¬ ((s[k]'hlt).toNat : Int) = 32 := fun e => h32 (by rw [get_getElem s k hlt]; apply UInt8.toNat_inj.1; have : (32 : UInt8).toNat = 32 := rfl; omega)
        have HC := Lib.hid hc
        clear hc hf hf' h32
        go_wp2
        go_roundw
        case rel => exact ⟨k + 1, b, acc, by omega, by omega, by go_num, rfl, by omega, HC, hi, hb⟩
        case measure => simp [intOf]; omega
    · obtain rfl : k = s.size := by omega
      have hc := hcut.out
      rw [cutsF_end s _ _ b acc (by omega)] at hc
      have HC := Lib.hid hc
      clear hc
      go_wp2_with (at_builtin; refine append_one _ rfl _ rfl Try.infoS rfl (by decide) (fun _ => rfl) _ _ rfl rfl hi (piece s (b, s.size)) rfl hlen hBs ?_; intro v' w1 hi1 hg1; refine Hid.out ?_)
      have hb1 := hi.below_grown hb hBs hg1
      rw [show acc.map (piece s) ++ [piece s (b, s.size)] = piecesL s by rw [piecesL, ← HC.out]; simp] at hi1
      refine Lib.hid ?_
      go_wp2
      go_ret
      exact ⟨_, rfl, hi1, hb1⟩

theorem piecesL_len (s : ByteArray) : (piecesL s).length = (cuts s).length := by simp [piecesL]
/-- the words among the first k pieces -/
def wordsK (s : ByteArray) (k : Nat) : List ByteArray := (((cuts s).take k).filter full).map (piece s)
theorem wordsK_all (s : ByteArray) : wordsK s (cuts s).length = wordsL s := by rw [wordsK, wordsL, List.take_length]
theorem wordsK_len (s : ByteArray) (k : Nat) : (wordsK s k).length ≤ k := by
  unfold wordsK
  rw [List.length_map]
  exact Nat.le_trans (List.length_filter_le _ _) (by simp; omega)
theorem cuts_at_ok (s : ByteArray) (k : Nat) (hk : k < (cuts s).length) : ((cuts s)[k]).1 ≤ ((cuts s)[k]).2 ∧ ((cuts s)[k]).2 ≤ s.size :=
  cutsF_ok s s.size 0 0 [] (Nat.zero_le _) (Nat.le_refl _) (by simp) _ (List.getElem_mem hk)
theorem wordsK_step (s : ByteArray) (k : Nat) (hk : k < (cuts s).length) :
    ((piecesL s).getD k ⟨#[]⟩ = ⟨#[]⟩ ∧ wordsK s (k + 1) = wordsK s k) ∨ ((piecesL s).getD k ⟨#[]⟩ ≠ ⟨#[]⟩ ∧ wordsK s (k + 1) = wordsK s k ++ [(piecesL s).getD k ⟨#[]⟩]) := by
  have hg : (piecesL s).getD k ⟨#[]⟩ = piece s ((cuts s)[k]) := by
    rw [List.getD_eq_getElem?_getD, piecesL, List.getElem?_map, List.getElem?_eq_getElem hk]; rfl
  have hpe := piece_empty s _ (cuts_at_ok s k hk)
  rw [hg]
  unfold wordsK
  rw [List.take_succ_eq_append_getElem hk, List.filter_append]
  cases hf : full ((cuts s)[k]) with
  | false => left; exact ⟨hpe.2 hf, by simp [hf]⟩
  | true => right; exact ⟨fun e => by have := hpe.1 e; rw [hf] at this; simp at this, by simp [hf]⟩

theorem cutsF_pos (s : ByteArray) : ∀ (f i b : Nat) (acc : List (Nat × Nat)), 1 ≤ (cutsF s f i b acc).length
  | 0, i, b, acc => by simp [cutsF]
  | f + 1, i, b, acc => by
    unfold cutsF
    split
    · split
      · exact cutsF_pos s f (i + 1) (i + 1) _
      · exact cutsF_pos s f (i + 1) b acc
    · simp
theorem cuts_pos (s : ByteArray) : 1 ≤ (cuts s).length := cutsF_pos s _ _ _ _
theorem ne_toList {x : ByteArray} (h : x ≠ ⟨#[]⟩) : x.toList.isEmpty = false := by
  cases he : x.toList.isEmpty with
  | false => rfl
  | true =>
    rw [ByteArray.toList_eq, List.isEmpty_iff] at he
    exact absurd (ByteArray.ext (Array.toList_inj.1 he)) h

theorem splitWords_spec (s : ByteArray) (w : World) (hs : s.size ≤ 1048576) :
    Calls Try.prog 4 #[.string s] w fun e w' => ∃ v, e = .returned v ∧ Strs w' w.heap.size v (wordsL s) ∧ Below w.heap.size w w' := by
  go_enter Try.func4, Try.ntmps4
  go_wp2_with fail
  refine (l01Split_any s _ hs).mono ?_
  rintro e w1 ⟨v, rfl, i1, b1⟩
  have hpl := piecesL_len s
  have hcl := cuts_len s
  rcases i1.shape with ⟨rfl, h0⟩ | ⟨g, cap, rfl, _, hg, _, _⟩
  · exfalso
    have h1 : (piecesL s).length = 0 := by rw [h0]; rfl
    have h2 : 1 ≤ (cuts s).length := cuts_pos s
    omega
  have hlist : ∀ j, j < (cuts s).length → w1.cell? ⟨g, j, none⟩ = some (.string ((piecesL s).getD j ⟨#[]⟩)) := fun j hj => i1.cell _ j (by omega)
  obtain ⟨n, hn⟩ : ∃ n, n = (cuts s).length := ⟨_, rfl⟩
  have hb1 := b1.size
  rw [hpl]
  rw [← hn] at hcl hlist ⊢
  clear i1 hpl
  have HN := Lib.hid hn
  clear hn
  go_wp2
  go_loopw [4, 5] (fun v i wr => ∃ k : Nat, k ≤ n ∧ i = .int .i64 k ∧ Strs wr w1.heap.size v (wordsK s k) ∧ Below w1.heap.size w1 wr) (fun _ i _ => n - (intOf i).toNat)
  case atStart =>
    exact ⟨0, Nat.zero_le _, rfl, Own.empty _ _ _ (Nat.le_refl _), (Below.refl _ _).alloc (Nat.le_refl _) _⟩
  case round =>
    obtain ⟨k, hk, rfl, hi, hb⟩ := hrel
    have hBs := hb.size
    by_cases hlt : k < n
    · have c1 := hlist k hlt
      have hlen : (wordsK s k).length ≤ 1000000000 := by have := wordsK_len s k; omega
      rw [← hb.cell hg] at c1
      have hst := wordsK_step s k (by rw [← HN.out]; exact hlt)
      generalize (piecesL s).getD k ⟨#[]⟩ = x at *
      clear hlist
      rcases hst with ⟨rfl, hst⟩ | ⟨hne, hst⟩
      · have HST := Lib.hid hst
        clear hst
        go_wp2
        go_roundw
        case rel => exact ⟨k + 1, by omega, by go_num, by rw [HST.out]; exact hi, hb⟩
        case measure => simp [intOf]; omega
      · have HST := Lib.hid hst
        have hq : x.toList.isEmpty = false := ne_toList hne
        clear hst
        go_wp2_with (at_builtin; refine append_one _ rfl _ rfl Try.infoS rfl (by decide) (fun _ => rfl) _ _ rfl rfl hi x rfl hlen hBs ?_; intro v' w2 hi1 hg1; refine Hid.out ?_)
        have hb2 := hi.below_grown hb hBs hg1
        rw [← HST.out] at hi1
        clear hg1 hi hb
        refine Lib.hid ?_
        go_wp2
        go_roundw
        case rel => exact ⟨k + 1, by omega, by go_num, hi1, hb2⟩
        case measure => simp [intOf]; omega
    · obtain rfl : k = n := by omega
      have e := wordsK_all s
      rw [← HN.out] at e
      rw [e] at hi
      clear hlist e
      go_wp2
      go_ret
      exact ⟨_, rfl, hi.mono hb1, b1.trans (hb.mono hb1)⟩

theorem splitWords_impl (s : ByteArray) (w : World) (hs : s.size ≤ 1048576) :
    Calls Try.prog 5 #[.string s] w fun e w' => ∃ v, e = .returned v ∧ Strs w' w.heap.size v (wordsL s) ∧ Below w.heap.size w w' := by
  have hp : PredAtRunes Try.prog 11 #[] blankR w := by
    intro W x hx hb
    show Calls Try.prog 11 #[.int .i32 (x : Int)] W _
    have e : blankR x = decide ((x : Int) = 32) := by
      unfold blankR
      by_cases h : x = 32
      · subst h; rfl
      · have h' : ¬ (x : Int) = 32 := by omega
        rw [decide_eq_false h']; simp [h]
    rw [e]
    go_enter Try.func11, Try.ntmps11
    go_wp2
    go_ret
    exact ⟨rfl, 0, rfl⟩
  have cF : Calls Try.prog 10 #[.string s, .func (.func 11) #[] #[]] w _ :=
    Any.strings_FieldsFunc_runes Try.lays229 11 #[] (enters_of Try.func11 (by kernel_rfl) rfl) blankR s w (by omega) hp (by kernel_rfl) (by kernel_rfl)
  rw [words_fields] at cF
  generalize wordsL s = FS at cF ⊢
  go_enter Try.func5, Try.ntmps5
  go_wp2_with (go_at_call 10; refine cF.mono ?_; rintro e w' ⟨A, rfl, hA, hown, hb⟩)
  go_ret
  exact ⟨_, rfl, hown, hb⟩
end Go.Proofs.Ytjaofiepmhgjiaa
