/- Lists of numbers with the range of blocks in which they lie; what the laws' size helper says of rows that came in. No conditions. -/
import Derived.Test.YtgjmhihomklooaaMulti
import Derived.Test.YtgjmhihomklooaaValidM
namespace Go.Proofs.Ytgjmhihomklooaa
open Go.RowKit
set_option linter.unusedSimpArgs false
set_option linter.unusedVariables false

/-- the slice v holds xs in a row of its own, in a block from lo to below hi -/
def Row (w : World) (lo hi : Nat) (v : Value) (xs : List Int) : Prop := Ints w lo v xs ∧ OwnUnder hi v
theorem Row.mk {w : World} {lo : Nat} {v : Value} {xs : List Int} (h : Ints w lo v xs) : Row w lo w.heap.size v xs := ⟨h, h.ownUnder⟩
theorem Row.below {w w' : World} {lo hi : Nat} {v : Value} {xs : List Int} (h : Row w lo hi v xs) (hb : Below w.heap.size w w') : Row w' lo hi v xs := ⟨h.1.below hb, h.2⟩
theorem Row.within {w w' : World} {lo hi B C : Nat} {v : Value} {xs : List Int} (h : Row w lo hi v xs) (hk : Within B C w w') (hd : hi ≤ B ∨ C ≤ lo) : Row w' lo hi v xs :=
  ⟨h.1.block fun g hg hlt => hk.block g hlt (by have := h.2 g hg; have := h.1.own_ge hg; omega), h.2⟩
theorem Row.marked {w w' : World} {lo hi : Nat} {v : Value} {xs : List Int} (h : Row w lo hi v xs) (gr : w.grownBy w' v.ownBlock) : Within lo hi w w' :=
  Within.of_grown gr fun g hg => ⟨h.1.own_ge hg, h.2 g hg⟩
theorem Row.again {w w' : World} {lo hi : Nat} {v : Value} {xs ys : List Int} (h : Row w lo hi v xs) (gr : w.grownBy w' v.ownBlock) (hn : Ints w' lo v ys) : Row w' lo hi v ys := ⟨hn, h.2⟩

theorem tot_at {pss : List (List Int)} (i : Nat) (hi : i < pss.length) : (pss.getD i []).length ≤ totL pss := by
  have h1 := totL_take pss i hi
  have h2 := totL_take_le pss (i + 1)
  omega
theorem small_of_tot {pss : List (List Int)} (h : totL pss ≤ 1048576) : Small pss := fun i hi => by
  have := tot_at i hi
  omega
theorem rows_small {w : World} {a : Option Addr} {len cap : Nat} {A : Nat → Option Addr} {L C : Nat → Nat} {Z : Nat → List Int} (h : IsRows w a len cap A L C Z) (ht : totL (rowsL len L Z) ≤ 1048576) : ∀ r, r < len → L r ≤ 1048576 := fun r hr => by
  have h1 := rows_tot h r hr
  have h2 := totL_take_le (rowsL len L Z) (r + 1)
  omega
theorem Within.cell2 {B C : Nat} {w w' : World} (h : Within B C w w') {p : Addr} (hp : p.block < B ∨ C ≤ p.block) (hl : p.block < w.heap.size) : w'.cell? p = w.cell? p := by
  have := h.block p.block hl hp
  simp only [World.cell?, this]
theorem Grid.drew {E : TypeId} {w : World} {B C : Nat} {v : Value} {pss : List (List Int)} (h : Grid E w B C v pss) : Grid E w.drew B C v pss := h
theorem Grid.slice {E : TypeId} {w : World} {B C : Nat} {v : Value} {pss : List (List Int)} (h : Grid E w B C v pss) : ∃ a n c, v = .slice a n c := by
  rcases h.shape with ⟨rfl, _⟩ | ⟨g, cap, rfl, _⟩ <;> exact ⟨_, _, _, rfl⟩
theorem toMulti_sl (a : Option Addr) (len cap : Nat) (A : Nat → Option Addr) (L C : Nat → Nat) (Z : Nat → List Int) (w : World) (h : IsRows w a len cap A L C Z) (hbig : len ≤ 1048576) (hrows : ∀ r, r < len → L r ≤ 1048576) :
    Calls Try.prog 104 #[.agg #[.slice a len cap]] w fun e w' =>
      ∃ x y z, e = .returned (.agg #[.slice x y z]) ∧ Grid 32 w' w.heap.size w'.heap.size (.slice x y z) (rowsL len L Z) ∧ Below w.heap.size w w' :=
  (toMulti_any a len cap A L C Z w h hbig hrows).mono fun e w' ⟨v, he, hg, hb⟩ => by
    obtain ⟨x, y, z, rfl⟩ := hg.slice
    exact ⟨x, y, z, he, hg, hb⟩
end Go.Proofs.Ytgjmhihomklooaa
