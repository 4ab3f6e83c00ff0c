/- Two lists of numbers in a range of blocks: what keeps them, and what marking does. No conditions. -/
import Derived.Test.YtjhhldfhfebboaaPasH
import Derived.Test.YtjhhldfhfebboaaPasR
namespace Go.Proofs.Ytjhhldfhfebboaa
open Go.RowKit

section
variable {w w' : World} {lo hi : Nat} {u v : Value} {A B X : List Int}
theorem TwoI.keep (h : TwoI w lo hi u v A B) (hk : ∀ k, k < w.heap.size → lo ≤ k → k < hi → w'.heap[k]? = w.heap[k]?) : TwoI w' lo hi u v A B :=
  ⟨h.fst.block fun g hg hlt => hk g hlt (h.fst.own_ge hg) (h.fstU g hg), h.snd.block fun g hg hlt => hk g hlt (h.snd.own_ge hg) (h.sndU g hg), h.fstU, h.sndU, h.apart⟩
theorem TwoI.below (h : TwoI w lo hi u v A B) (hb : Below w.heap.size w w') : TwoI w' lo hi u v A B := h.keep fun k hk _ _ => hb.block k hk
theorem TwoI.within {B' C' : Nat} (h : TwoI w lo hi u v A B) (hk : Within B' C' w w') (hd : hi ≤ B' ∨ C' ≤ lo) : TwoI w' lo hi u v A B := h.keep fun k hk' h1 h2 => hk.block k hk' (by omega)
theorem TwoI.mark1 (h : TwoI w lo hi u v A B) (n : Ints w' lo u X) (gr : w.grownBy w' u.ownBlock) : TwoI w' lo hi u v X B ∧ Within lo hi w w' :=
  ⟨⟨n, h.snd.block fun g hg hlt => gr.block g hlt fun e => h.apart g e.symm hg, h.fstU, h.sndU, h.apart⟩, Within.of_grown gr fun g hg => ⟨h.fst.own_ge hg, h.fstU g hg⟩⟩
theorem TwoI.mark2 (h : TwoI w lo hi u v A B) (n : Ints w' lo v X) (gr : w.grownBy w' v.ownBlock) : TwoI w' lo hi u v A X ∧ Within lo hi w w' :=
  ⟨⟨h.fst.block fun g hg hlt => gr.block g hlt fun e => h.apart g hg e.symm, n, h.fstU, h.sndU, h.apart⟩, Within.of_grown gr fun g hg => ⟨h.snd.own_ge hg, h.sndU g hg⟩⟩
end
theorem psL_A (a b : List Pt) : (psA a b).length ≤ 8 := by
  unfold psA
  split
  · rename_i h
    have := okPL_num (okPas_L h)
    have := passL_len a a.length
    omega
  · simp
theorem psL_B (a b : List Pt) : (psB a b).length ≤ 8 := by
  unfold psB
  split
  · rename_i h
    have := okPL_num (okPas_L h)
    have := passL_len b a.length
    omega
  · simp
end Go.Proofs.Ytjhhldfhfebboaa
