/- The model's source of choices: l00Src's methods next and pick answer numbers within their bounds, and write the source alone. No conditions. -/
import Derived.Test.YtlpeigeadjojnaaBase
import Derived.Laws.BitsAllLaws
namespace Go.Proofs.Ytlpeigeadjojnaa
open Go.RowKit
set_option linter.unusedSimpArgs false
set_option linter.unusedVariables false

/-- the bytes that came in -/
theorem IsRow.bytes {w : World} {a : Option Addr} {len cap : Nat} {zs : List Int} (h : IsRow .u8 w a len cap zs) :
    len ≤ zs.length ∧ len ≤ maxLen ∧ (len = 0 ∨ ∃ b off, a = some ⟨b, off, none⟩ ∧ b < w.heap.size ∧ ∀ i, i < len → w.cell? ⟨b, off + i, none⟩ = some (.int .u8 (zs.getD i 0)) ∧ 0 ≤ zs.getD i 0 ∧ zs.getD i 0 ≤ 255) := by
  rcases h with ⟨_, rfl, _, rfl⟩ | ⟨x, rfl, hl, hm, hz, hc, hw⟩
  · exact ⟨by simp, by simp [maxLen], .inl rfl⟩
  · refine ⟨by omega, by omega, ?_⟩
    by_cases h0 : len = 0
    · exact .inl h0
    · right
      obtain ⟨b, off, spot⟩ := x
      have hc0 := hc 0 (by omega)
      have hspot : spot = none := by simpa [Addr.add] using World.cell?_spot hc0
      subst hspot
      refine ⟨b, off, rfl, cell_block hc0, fun i hi => ⟨by rw [← hc i (by omega)]; by_cases h0 : i = 0 <;> simp [Addr.add, h0], ?_⟩⟩
      have hmem : zs.getD i 0 ∈ zs := by rw [List.getD_eq_getElem?_getD, List.getElem?_eq_getElem (by omega)]; simp
      exact bounds_u8 (hw _ hmem)

/-- block b is a source that has read n bytes of cv -/
def SrcAt (w : World) (b n : Nat) (seed : Int) (cv : Value) : Prop := w.heap[b]? = some (.cells #[cv, .int .i64 n, .int .u64 seed] 75)
theorem SrcAt.cells {w : World} {b n : Nat} {seed : Int} {cv : Value} (h : SrcAt w b n seed cv) :
    w.cell? ⟨b, 0, none⟩ = some cv ∧ w.cell? ⟨b, 1, none⟩ = some (.int .i64 n) ∧ w.cell? ⟨b, 2, none⟩ = some (.int .u64 seed) := by
  unfold SrcAt at h
  refine ⟨?_, ?_, ?_⟩ <;> simp [World.cell?, h]
theorem SrcAt.lt {w : World} {b n : Nat} {seed : Int} {cv : Value} (h : SrcAt w b n seed cv) : b < w.heap.size := (Array.getElem?_eq_some_iff.1 h).1
theorem SrcAt.free {w : World} {b n : Nat} {seed : Int} {cv : Value} (h : SrcAt w b n seed cv) (j : Nat) : w.frozen? ⟨b, j, none⟩ = false := by
  unfold SrcAt at h
  simp [World.frozen?, h]

theorem SrcAt.step {w : World} {b n : Nat} {seed : Int} {cv : Value} (h : SrcAt w b n seed cv) (m m' n' : Nat) (seed' : Int) :
    SrcAt ((((w.drewN m).setCell ⟨b, 1, none⟩ (.int .i64 n')).setCell ⟨b, 2, none⟩ (.int .u64 seed')).drewN m') b n' seed' cv ∧ w.grownBy ((((w.drewN m).setCell ⟨b, 1, none⟩ (.int .i64 n')).setCell ⟨b, 2, none⟩ (.int .u64 seed')).drewN m') (some b) := by
  unfold SrcAt at *
  refine ⟨by simp [World.setCell, Array.getElem?_modify, h], rfl, rfl, rfl, by simp [World.setCell], fun k hk hne => ?_⟩
  have hne' : k ≠ b := fun e => hne (by rw [e])
  rw [World.heap_drewN, Below.heap_setCell _ _ _ _ (by simpa using hne'), Below.heap_setCell _ _ _ _ (by simpa using hne')]
  rfl

/-- a byte of the seed -/
theorem low_byte (z : Int) : 0 ≤ wrap64 (bits BinOp.and IntKind.u64 (IntKind.u64.wrap z / 1099511627776) 255) ∧ wrap64 (bits BinOp.and IntKind.u64 (IntKind.u64.wrap z / 1099511627776) 255) ≤ 255 := by
  have hw : 0 ≤ IntKind.u64.wrap z ∧ IntKind.u64.wrap z < 18446744073709551616 := by
    simp [IntKind.wrap, IntKind.signed, IntKind.bits]
    omega
  have hb := u64_and (IntKind.u64.wrap z / 1099511627776) 255 (by omega) (by omega) (by decide) (by decide)
  rw [hb]
  have hl : ((IntKind.u64.wrap z / 1099511627776).toNat &&& (255 : Int).toNat : Nat) ≤ 255 := Nat.and_le_right
  generalize ((IntKind.u64.wrap z / 1099511627776).toNat &&& (255 : Int).toNat : Nat) = q at hl
  unfold wrap64
  omega

theorem srcNext_in (g off len cap b n : Nat) (y seed : Int) (w : World) (hs : SrcAt w b n seed (.slice (some ⟨g, off, none⟩) len cap)) (hn : n < len) (hlen : len ≤ 1000000000) (hc : w.cell? ⟨g, off + n, none⟩ = some (.int .u8 y)) (h0 : 0 ≤ y) (h1 : y ≤ 255) :
    Calls Try.prog 67 #[.pointer (some ⟨b, 0, none⟩)] w fun e w' => ∃ x seed', e = .returned (.int .i64 x) ∧ (0 ≤ x ∧ x ≤ 255) ∧ SrcAt w' b (n + 1) seed' (.slice (some ⟨g, off, none⟩) len cap) ∧ w.grownBy w' (some b) := by
  obtain ⟨hc0, hc1, hc2⟩ := hs.cells
  have hf1 := hs.free 1
  have hf2 := hs.free 2
  have hb := hs.lt
  go_enter Try.func67, Try.ntmps67
  go_wp2
  go_quiet (fail)
  go_wp2
  go_quiet (fail)
  go_wp2
  go_quiet (fail)
  go_wp2
  go_ret
  refine ⟨_, ?s, rfl, ⟨h0, h1⟩, ?r⟩
  case r => exact hs.step _ _ (n + 1) _

theorem next_out (a : Option Addr) (len cap b n : Nat) (seed : Int) (w : World) (hs : SrcAt w b n seed (.slice a len cap)) (hn : len ≤ n) (hlen : n ≤ 1000000000) :
    Calls Try.prog 67 #[.pointer (some ⟨b, 0, none⟩)] w fun e w' => ∃ x seed', e = .returned (.int .i64 x) ∧ (0 ≤ x ∧ x ≤ 255) ∧ SrcAt w' b (n + 1) seed' (.slice a len cap) ∧ w.grownBy w' (some b) := by
  obtain ⟨hc0, hc1, hc2⟩ := hs.cells
  have hf1 := hs.free 1
  have hf2 := hs.free 2
  have hb := hs.lt
  go_enter Try.func67, Try.ntmps67
  go_wp2
  go_quiet (fail)
  go_wp2
  go_quiet (fail)
  go_wp2
  go_ret
  refine ⟨_, ?s, rfl, ?q, ?r⟩
  case r => exact hs.step _ _ (n + 1) _
  case q =>
    exact low_byte _

/-- block b is a source over cv that has read at most k bytes -/
def Src (w : World) (b k : Nat) (cv : Value) : Prop := ∃ n seed, n ≤ k ∧ SrcAt w b n seed cv
theorem Src.lt {w : World} {b k : Nat} {cv : Value} (h : Src w b k cv) : b < w.heap.size := by obtain ⟨n, seed, _, h⟩ := h; exact h.lt
theorem Src.mono {w : World} {b k k' : Nat} {cv : Value} (h : Src w b k cv) (hk : k ≤ k') : Src w b k' cv := by obtain ⟨n, seed, hn, h⟩ := h; exact ⟨n, seed, by omega, h⟩
theorem Src.keep {w w' : World} {b k : Nat} {cv : Value} {r : Option Nat} (h : Src w b k cv) (hg : w.grownBy w' r) (hr : some b ≠ r) : Src w' b k cv := by
  obtain ⟨n, seed, hn, h⟩ := h
  refine ⟨n, seed, hn, ?_⟩
  unfold SrcAt at *
  rw [hg.block b (Array.getElem?_eq_some_iff.1 h).1 hr]
  exact h

theorem next_any (a : Option Addr) (len cap b k : Nat) (zs : List Int) (w : World) (hs : Src w b k (.slice a len cap)) (hr : IsRow .u8 w a len cap zs) (hlen : len ≤ 1000000000) (hk : k ≤ 1000000000) :
    Calls Try.prog 67 #[.pointer (some ⟨b, 0, none⟩)] w fun e w' => ∃ x, e = .returned (.int .i64 x) ∧ (0 ≤ x ∧ x ≤ 255) ∧ Src w' b (k + 1) (.slice a len cap) ∧ w.grownBy w' (some b) := by
  obtain ⟨n, seed, hn, hs⟩ := hs
  obtain ⟨h1, h2, h3⟩ := hr.bytes
  by_cases hlt : n < len
  · rcases h3 with h3 | ⟨g, off, rfl, hg, hc⟩
    · omega
    · obtain ⟨hc, hy0, hy1⟩ := hc n hlt
      refine (srcNext_in g off len cap b n _ seed w hs hlt hlen hc hy0 hy1).mono ?_
      rintro e w' ⟨x, seed', rfl, hx, hs', hg'⟩
      exact ⟨x, rfl, hx, ⟨n + 1, seed', by omega, hs'⟩, hg'⟩
  · refine (next_out a len cap b n seed w hs (by omega) (by omega)).mono ?_
    rintro e w' ⟨x, seed', rfl, hx, hs', hg'⟩
    exact ⟨x, rfl, hx, ⟨n + 1, seed', by omega, hs'⟩, hg'⟩

theorem l00From_any (a : Option Addr) (len cap : Nat) (w : World) :
    Calls Try.prog 35 #[.slice a len cap] w fun e w' => e = .returned (.pointer (some ⟨w.heap.size, 0, none⟩)) ∧ Src w' w.heap.size 0 (.slice a len cap) ∧ w'.heap.size = w.heap.size + 1 ∧ Below w.heap.size w w' := by
  go_enter Try.func35, Try.ntmps35
  go_wp2
  go_ret
  exact ⟨rfl, ⟨0, 0, Nat.le_refl _, heap_alloc_new w _⟩, by simp, (Below.refl _ _).alloc (Nat.le_refl _) _⟩

theorem pick_low (a : Option Addr) (len cap b : Nat) (m : Int) (w : World) (hm : m ≤ 1) :
    Calls Try.prog 37 #[.pointer (some ⟨b, 0, none⟩), .int .i64 m] w fun e w' => e = .returned (.int .i64 0) ∧ w' = w := by
  go_enter Try.func37, Try.ntmps37
  go_wp2
  go_ret
  exact ⟨rfl, rfl⟩

theorem pick_small (a : Option Addr) (len cap b k : Nat) (m : Int) (zs : List Int) (w : World) (hs : Src w b k (.slice a len cap)) (hr : IsRow .u8 w a len cap zs) (hlen : len ≤ 1000000000) (hk : k ≤ 1000000000) (hm : 2 ≤ m) (hm' : m ≤ 200) :
    Calls Try.prog 37 #[.pointer (some ⟨b, 0, none⟩), .int .i64 m] w fun e w' => ∃ x, e = .returned (.int .i64 x) ∧ (0 ≤ x ∧ x < m) ∧ Src w' b (k + 1) (.slice a len cap) ∧ w.grownBy w' (some b) := by
  have HN := next_any a len cap b k zs w hs hr hlen hk
  go_enter Try.func37, Try.ntmps37
  go_wp2_with fail
  refine HN.mono ?_
  rintro e w1 ⟨x, rfl, hx, hs1, hg1⟩
  go_wp2
  go_ret
  exact ⟨_, rfl, ⟨Int.emod_nonneg _ (by omega), Int.emod_lt_of_pos _ (by omega)⟩, hs1, hg1⟩

theorem pick_any (a : Option Addr) (len cap b k : Nat) (m : Int) (zs : List Int) (w : World) (hs : Src w b k (.slice a len cap)) (hr : IsRow .u8 w a len cap zs) (hlen : len ≤ 1000000000) (hk : k ≤ 1000000000) (hm : m ≤ 200) :
    Calls Try.prog 37 #[.pointer (some ⟨b, 0, none⟩), .int .i64 m] w fun e w' => ∃ x, e = .returned (.int .i64 x) ∧ (0 ≤ x ∧ (x < m ∨ x = 0)) ∧ Src w' b (k + 1) (.slice a len cap) ∧ w.grownBy w' (some b) := by
  by_cases h2 : 2 ≤ m
  · refine (pick_small a len cap b k m zs w hs hr hlen hk h2 hm).mono ?_
    rintro e w' ⟨x, rfl, hx, hs', hg⟩
    exact ⟨x, rfl, ⟨hx.1, .inl hx.2⟩, hs', hg⟩
  · refine (pick_low a len cap b m w (by omega)).mono ?_
    rintro e w' ⟨rfl, rfl⟩
    exact ⟨0, rfl, ⟨Int.le_refl _, .inr rfl⟩, hs.mono (by omega), World.grownBy.refl _ _⟩
end Go.Proofs.Ytlpeigeadjojnaa
