/- PrimeParts, the program's. No conditions. -/
import Derived.Test.YtdghbbnddgngoaaPrH
import Derived.Test.YtdghbbnddgngoaaJoined
namespace Go.Proofs.Ytdghbbnddgngoaa
open Go.RowKit
set_option linter.unusedSimpArgs false
set_option linter.unusedVariables false

/-- what is left: a row of its own, or nothing -/
def LeftAt (w : World) (C : Nat) (v : Value) (r : List Int) : Prop := Ints w C v r ∨ (r = [] ∧ ∃ a c, v = .slice a 0 c)

set_option maxHeartbeats 400000 in
theorem joined_zero (g cap gm cm : Nat) (u : Value) (ys : List Int) (w : World) (hgm : gm < w.heap.size) (hu : w.cell? ⟨gm, 0, none⟩ = some u) (hs : Sees w u ys) (hlen : ys.length ≤ 1000) :
    Calls Try.prog 40 #[.slice (some ⟨g, 0, none⟩) 0 cap, .slice (some ⟨gm, 0, none⟩) 1 cm] w fun e w' => ∃ x, e = .returned x ∧ LeftAt w' w.heap.size x ys ∧ Below w.heap.size w w' := by
  have HS := Lib.hid (fun W (hW : Below w.heap.size w W) => hs.below hW)
  have HU := Lib.hid (fun W (hW : Below w.heap.size w W) => (hW.cell (p := ⟨gm, 0, none⟩) hgm).trans hu)
  obtain ⟨gu, ou, cu, rfl, _⟩ := hs
  clear hu
  have c0 := HU.out w (Below.refl _ _)
  have s0 := HS.out w (Below.refl _ _)
  clear HS HU
  by_cases hy : ys = []
  · subst hy
    have c1 : w.cell? ⟨gm, 0, none⟩ = some (.slice (some ⟨gu, ou, none⟩) 0 cu) := c0
    clear c0 s0
    go_enter Try.func40, Try.ntmps40
    go_wp2
    refine wp_loop_rounds 2 ?_
    rw [rounds_succ]
    go_wp2
    rw [rounds_succ]
    go_wp2
    go_ret
    exact ⟨_, rfl, .inr ⟨rfl, _, _, rfl⟩, Below.refl _ _⟩
  · have hl : 1 ≤ ys.length := by
      rcases ys with _ | ⟨y, t⟩
      · exact absurd rfl hy
      · simp
    obtain ⟨n, hn⟩ : ∃ n, ys.length = n := ⟨_, rfl⟩
    rw [hn] at c0 s0
    have HN := Lib.hid hn
    clear hy hn
    go_enter Try.func40, Try.ntmps40
    go_wp2
    refine wp_loop_rounds 2 ?_
    rw [rounds_succ]
    go_wp2_with (at_builtin; refine append_new _ rfl 56 Try.underlying56 _ _ rfl _ rfl _ ys rfl s0 (by omega) (by omega) ?_; intro v' w1 i1 g1; refine Hid.out ?_)
    have b1 : Below w.heap.size w w1 := (Below.refl _ _).grown g1 (Nat.le_refl _) (by simp)
    clear g1
    refine Lib.hid ?_
    go_wp2
    rw [rounds_succ]
    go_wp2
    go_ret
    exact ⟨_, rfl, .inl i1, b1⟩

theorem pp_joined (g cap i : Nat) (S : Value) (ys r : List Int) (w : World) (h : Ints w 0 (.slice (some ⟨g, 0, none⟩) r.length cap) r) (hg : g < w.heap.size) (hc : r.length ≤ cap) (hm : cap ≤ 9223372036854775807) (hi : i ≤ r.length) (hr : r.length ≤ 12) (hS : Sees w S ys) (hy : ys.length ≤ 12) :
    Calls Try.prog 40 #[.slice (some ⟨g, 0, none⟩) i cap, .slice (some ⟨w.heap.size, 0, none⟩) 1 1] (w.alloc (.cells #[S] 56)).drew
      fun e w' => ∃ u, e = .returned u ∧ LeftAt w' w.heap.size u (r.take i ++ ys) ∧ Below w.heap.size w w' := by
  have b0 : Below w.heap.size w (w.alloc (.cells #[S] 56)).drew := below_drew1 ((Below.refl _ _).alloc (Nat.le_refl _) _)
  have s1 := (h.take_ i hg hc hm hi).below b0
  have s2 := hS.below b0
  have hcell : ((w.alloc (.cells #[S] 56)).drew).cell? ⟨w.heap.size, 0, none⟩ = some S := by
    show World.cell? (w.alloc _) _ = _; unfold World.cell?; rw [show (Addr.block ⟨w.heap.size, 0, none⟩) = w.heap.size from rfl, heap_alloc_new]; rfl
  have hsz : w.heap.size < ((w.alloc (.cells #[S] 56)).drew).heap.size := by simp
  by_cases h0 : i = 0
  · subst h0
    refine (joined_zero g cap w.heap.size 1 S ys _ hsz hcell s2 (by omega)).mono ?_
    rintro e w' ⟨u, rfl, hl, hb⟩
    refine ⟨u, rfl, ?_, b0.trans (hb.mono b0.size)⟩
    rw [List.take_zero, List.nil_append]
    rcases hl with h1 | h1
    · exact .inl (h1.mono b0.size)
    · exact .inr h1
  · have hlt : (r.take i).length = i := by simp; omega
    refine (joined_any _ _ (r.take i) [ys] _ s1 (.inr ⟨w.heap.size, 1, rfl, hsz, by simp, fun j hj => ?_⟩) (by omega) (by simp; omega)).mono ?_
    · obtain rfl : j = 0 := by simp at hj; omega
      exact ⟨_, hcell, s2⟩
    · rintro e w' ⟨u, rfl, hi, hb⟩
      exact ⟨u, rfl, .inl (by simpa using hi.mono b0.size), b0.trans (hb.mono b0.size)⟩
end Go.Proofs.Ytdghbbnddgngoaa
