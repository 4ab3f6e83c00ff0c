/- Drawn beats that are seldom not a synchronous pattern: l05Bent, and the draws of the laws that call it alone. No conditions. -/
import Derived.Test.YtgjmhihomklooaaDrawS
import Derived.Test.YtgjmhihomklooaaSynU
namespace Go.Proofs.Ytgjmhihomklooaa
open Go.RowKit
set_option linter.unusedSimpArgs false
set_option linter.unusedVariables false

theorem append_syn (w0 : World) {ops : Array Oper} {rest : List Oper} {o : Oper} {a : Act} {Q : Exit → Act → World → Prop} (hgd : o.guard = none) (s x : Operand)
    (ho : o.op = .call { callee := .builtin .append, args := #[s, x], argTypes := #[44, 44] }) (B : Nat) (v : Value) (xs : List Syn) (hs : a.eval s = v) (h : Syns w0 B v xs) (y : Syn)
    (hx : a.eval x = .slice (some ⟨w0.heap.size, 0, none⟩) 1 1) (hlen : xs.length ≤ 1000000) (hB : B ≤ w0.heap.size)
    (hK : ∀ v' w', Syns w' B v' (xs ++ [y]) → w0.grownBy w' v.ownBlock → wpList Try.prog ops Q rest (a.put o.dst v') w') :
    wpList Try.prog ops Q (o :: rest) a (w0.alloc (.cells (synV y).toArray 115)) := by
  obtain ⟨i0, hi, hz0, hz1, hz2⟩ := info_parts Try.infoSyn
  refine wpList_append_own (w0.alloc (.cells (synV y).toArray 115)) hgd s x 44 ho B 115 i0 (.agg #[.int .i64 0, .bool false, .int .i64 0, .bool false]) 4 32 Try.underlying44 hi hz0 hz1 hz2 rfl (by decide) v xs.length _ hs (World.ownsRow.alloc h _)
    ⟨w0.heap.size, 0, none⟩ 1 1 (synV y) hx rfl ?_ (synV_one y) (by unfold maxLen; omega) (by omega) (by simp; omega) ?_
  · intro j u hj
    match j, hj with
    | 0, hj => simp [synV] at hj; subst hj; simp [Addr.add, synV]
    | 1, hj => simp [synV] at hj; subst hj; simp [Addr.add, synV]
    | 2, hj => simp [synV] at hj; subst hj; simp [Addr.add, synV]
    | 3, hj => simp [synV] at hj; subst hj; simp [Addr.add, synV]
    | j + 4, hj => simp [synV] at hj
  · intro v' w' h1 h2 _
    refine hK v' w' ?_ ⟨h2.os, h2.tape, h2.output, by have := h2.size; simp at this; omega, fun k hk hne => ?_⟩
    · unfold Syns OwnK
      simpa using h1
    · rw [h2.block k (by simp; omega) hne]
      exact Below.heap_alloc _ _ _ hk

theorem put_left {w : World} {B g n cap : Nat} {p : List Syn} (h : Syns w B (.slice (some ⟨g, 0, none⟩) n cap) p) (i : Nat) (hi : i < p.length) (v : Int) :
    Syns (w.setCell ⟨g, i * 4, none⟩ (.int .i64 v)) B (.slice (some ⟨g, 0, none⟩) n cap) (p.set i ((v, (p.getD i s0).1.2), (p.getD i s0).2)) := h.put synV_len s0 i 0 (.int .i64 v) _ hi (by decide) rfl
theorem put_cross {w : World} {B g n cap : Nat} {p : List Syn} (h : Syns w B (.slice (some ⟨g, 0, none⟩) n cap) p) (i : Nat) (hi : i < p.length) (c : Bool) :
    Syns (w.setCell ⟨g, i * 4 + 3, none⟩ (.bool c)) B (.slice (some ⟨g, 0, none⟩) n cap) (p.set i ((p.getD i s0).1, ((p.getD i s0).2.1, c))) := h.put synV_len s0 i 3 (.bool c) _ hi (by decide) rfl
theorem put_two {w : World} {B g n cap : Nat} {p : List Syn} (h : Syns w B (.slice (some ⟨g, 0, none⟩) n cap) p) (i : Nat) (hi : i < p.length) (v : Int) (c : Bool) :
    Syns ((w.setCell ⟨g, i * 4, none⟩ (.int .i64 v)).setCell ⟨g, i * 4 + 1, none⟩ (.bool c)) B (.slice (some ⟨g, 0, none⟩) n cap) (p.set i ((v, c), (p.getD i s0).2)) := by
  have a2 := (put_left h i hi v).put synV_len s0 i 1 (.bool c) ((v, c), (p.getD i s0).2) (by simpa using hi) (by decide) (by simp [hi, synV])
  simpa [List.set_set] using a2

/-- no beats are no nil slice here -/
def Full (v : Value) (p : List Syn) : Prop := p = [] → ∃ g, v = .slice (some ⟨g, 0, none⟩) 0 0
theorem Full.pos {v : Value} {p : List Syn} (h : 1 ≤ p.length) : Full v p := fun e => by rw [e] at h; simp at h

set_option maxRecDepth 10000 in
set_option maxHeartbeats 4000000 in
theorem l05Bent_any (a : Option Addr) (len cap b k : Nat) (zs : List Int) (w : World) (hs : Src w b k (.slice a len cap)) (hr : IsRow .u8 w a len cap zs) (hab : ∀ x, a = some x → 0 < zs.length → x.block ≠ b) (hlen : len ≤ 1000000000) (hk : k ≤ 900000) :
    Calls Try.prog 80 #[.pointer (some ⟨b, 0, none⟩)] w fun e w' => ∃ v p, e = .returned v ∧ Syns w' w.heap.size v p ∧ p.length ≤ 8 ∧ Full v p ∧ Src w' b (k + 200) (.slice a len cap) ∧ w.grownBy w' (some b) := by
  have HD := l05Draw_any a len cap b k 3 zs w hs hr hab hlen (by omega) (by omega) (by omega)
  have hbw := hs.lt
  have hrow : ∀ wr : World, w.grownBy wr (some b) → IsRow .u8 wr a len cap zs := fun wr hg => hr.grown hg fun x hx h0 => by simpa using hab x hx h0
  have HROW := Lib.hid hrow
  clear hrow hab hr hs
  go_enter Try.func80, Try.ntmps80
  go_wp2_with fail
  refine HD.mono ?_
  rintro e w1 ⟨v, p, rfl, i1, hp1, hp3, s1, g1⟩
  clear HD
  obtain ⟨g, c, rfl, hBg, hgs, hc, hm⟩ := i1.shape2 hp1
  have HP := pick_any a len cap b (k + 100) p.length zs w1 s1 (HROW.out _ g1) hlen (by omega) (by omega)
  clear s1
  go_wp2_with fail
  refine HP.mono ?_
  rintro e w2 ⟨x, rfl, hx, s2, g2⟩
  obtain ⟨j, rfl⟩ : ∃ j : Nat, x = j := ⟨x.toNat, by omega⟩
  have hj : j < p.length := by omega
  have G2 := g1.trans g2
  have i2 := i1.keepb g2 hbw
  clear HP hx g1 g2 i1
  have HP := pick_any a len cap b (k + 100 + 1) 18 zs w2 s2 (HROW.out _ G2) hlen (by omega) (by omega)
  clear s2
  go_wp2_with fail
  refine HP.mono ?_
  rintro e w3 ⟨y, rfl, hy, s3, g3⟩
  have G3 := G2.trans g3
  have i3 := i2.keepb g3 hbw
  have Z3 := G3.size
  clear HP g3 G2 i2
  by_cases h0 : y = 0
  · subst h0
    clear hy
    have HI3 := Lib.hid i3
    have i4 : Ints (w3.alloc (.cells #[.int .i64 (-2), .int .i64 1, .int .i64 3, .int .i64 14, .int .i64 15, .int .i64 16] 2)) w3.heap.size (.slice (some ⟨w3.heap.size, 0, none⟩) 6 6) [-2, 1, 3, 14, 15, 16] := World.ownsRow_lit w3 #[.int .i64 (-2), .int .i64 1, .int .i64 3, .int .i64 14, .int .i64 15, .int .i64 16] 6 (Nat.le_refl _) (by simp [maxLen]) rfl
    have s4 := s3.keep (World.grownBy_alloc w3 (.cells #[.int .i64 (-2), .int .i64 1, .int .i64 3, .int .i64 14, .int .i64 15, .int .i64 16] 2) none) (by simp)
    have G4 : w.grownBy (w3.alloc (.cells #[.int .i64 (-2), .int .i64 1, .int .i64 3, .int .i64 14, .int .i64 15, .int .i64 16] 2)) (some b) := G3.trans (World.grownBy_alloc _ _ _)
    have ip4 := HI3.out.alloc (.cells #[.int .i64 (-2), .int .i64 1, .int .i64 3, .int .i64 14, .int .i64 15, .int .i64 16] 2)
    have HA := among_any a len cap b (k + 100 + 1 + 1) w3.heap.size _ _ zs _ s4 (HROW.out _ G4) hlen (by omega) i4 (by omega) (by simp) (by simp)
    have IP4 := Lib.hid ip4
    have G4' := Lib.hid G4
    clear i3 i4 s4 G4 ip4 s3 G3 HI3
    generalize hn : p.length = n at *
    have HN := Lib.hid hn
    clear hn
    go_wp2_with fail
    refine HA.mono ?_
    rintro e w5 ⟨u, rfl, s5, g5⟩
    have i5 := IP4.out.keepb g5 hbw
    obtain ⟨c5, _, _, _⟩ := i5.four j (by rw [HN.out]; exact hj)
    have f5 := i5.free (j * 4)
    have i6 := put_left i5 j (by rw [HN.out]; exact hj) u
    have G5 := G4'.out.trans g5
    have G6 := grown_new G5 (j * 4) hBg (.int .i64 u)
    have s6 := s5.set (j * 4) (show b ≠ g by omega) (.int .i64 u)
    clear HA i5 IP4 s5 g5 G5
    generalize (p.getD j s0).1.1 = zz at *
    go_wp2
    go_ret
    first | exact ⟨_, rfl, _, i6, by simp; rw [HN.out]; omega, Full.pos (by simp; rw [HN.out]; omega), s6.mono (by omega), G6⟩ | exact ⟨_, _, rfl, i6, by simp; rw [HN.out]; omega, Full.pos (by simp; rw [HN.out]; omega), s6.mono (by omega), G6⟩
  · by_cases h1 : y = 1
    · subst h1
      clear hy h0
      obtain ⟨_, _, _, c4⟩ := i3.four j hj
      have f4 := i3.free (j * 4 + 3)
      have i5 := put_cross i3 j hj (!(p.getD j s0).2.2)
      have G5 := grown_new G3 (j * 4 + 3) hBg (.bool (!(p.getD j s0).2.2))
      have s5 := s3.set (j * 4 + 3) (show b ≠ g by omega) (.bool (!(p.getD j s0).2.2))
      have HL : Hid ((p.set j ((p.getD j s0).1, ((p.getD j s0).2.1, !(p.getD j s0).2.2))).length ≤ 8 ∧ 1 ≤ (p.set j ((p.getD j s0).1, ((p.getD j s0).2.1, !(p.getD j s0).2.2))).length) := by unfold Hid; simp; omega
      generalize p.set j ((p.getD j s0).1, ((p.getD j s0).2.1, !(p.getD j s0).2.2)) = P at *
      generalize (p.getD j s0).2.2 = zz at *
      clear i3 s3 G3
      generalize p.length = n at *
      go_wp2
      go_ret
      first | exact ⟨_, rfl, _, i5, HL.out.1, Full.pos HL.out.2, s5.mono (by omega), G5⟩ | exact ⟨_, _, rfl, i5, HL.out.1, Full.pos HL.out.2, s5.mono (by omega), G5⟩
    · by_cases h2 : y = 2
      · subst h2
        clear hy h0 h1
        have i4 : Syns (w3.alloc (.cells #[] 115)) w.heap.size (.slice (some ⟨w3.heap.size, 0, none⟩) 0 0) [] := OwnK.empty _ _ _ _ Z3
        go_wp2
        go_ret
        first | exact ⟨_, rfl, _, i4, by simp, (fun _ => ⟨_, rfl⟩), (s3.keep (World.grownBy_alloc w3 (.cells #[] 115) none) (by simp)).mono (by omega), G3.trans (World.grownBy_alloc _ _ _)⟩ | exact ⟨_, _, rfl, i4, by simp, (fun _ => ⟨_, rfl⟩), (s3.keep (World.grownBy_alloc w3 (.cells #[] 115) none) (by simp)).mono (by omega), G3.trans (World.grownBy_alloc _ _ _)⟩
      · by_cases h3 : y = 3
        · subst h3
          clear hy h0 h1 h2
          have i4 : Syns (w3.alloc (.cells #[] 115)) w.heap.size (.slice (some ⟨w3.heap.size, 0, none⟩) 0 0) [] := OwnK.empty _ _ _ _ Z3
          have s4 := s3.keep (World.grownBy_alloc w3 (.cells #[] 115) none) (by simp)
          have G4 : w.grownBy (w3.alloc (.cells #[] 115)) (some b) := G3.trans (World.grownBy_alloc _ _ _)
          have HP := pick_any a len cap b (k + 100 + 1 + 1) 2 zs _ s4 (HROW.out _ G4) hlen (by omega) (by omega)
          have I4 := Lib.hid i4
          have G4' := Lib.hid G4
          clear i3 i4 s4 G4 s3 G3
          go_wp2_with fail
          refine HP.mono ?_
          rintro e w5 ⟨u, rfl, hu, s5, g5⟩
          have i5 := I4.out.keepb g5 hbw
          have G5 := G4'.out.trans g5
          obtain ⟨n, hn⟩ : ∃ n : Nat, 6 + u = (n : Int) := ⟨(6 + u).toNat, by omega⟩
          have hn7 : n ≤ 7 := by omega
          have hn6 : 6 ≤ n := by omega
          clear HP I4 g5 hu
          go_wp2
          (try rw [hn])
          clear hn
          go_loopw [3, 5] (fun v i wr => ∃ (q : List Syn) (m : Nat), i = .int .i64 m ∧ q.length + m = n ∧ Syns wr w.heap.size v q ∧ Src wr b (k + 100 + 1 + 1 + 1) (.slice a len cap) ∧ w.grownBy wr (some b)) (fun _ i _ => (intOf i).toNat)
          case atStart => exact ⟨[], n, rfl, by simp, i5, s5, G5⟩
          case round =>
            clear i5 s5 G5
            obtain ⟨q, m, rfl, hlv, hi, hs, hg⟩ := hrel
            have hz := hg.size
            by_cases hlt : 0 < m
            · have HL := Lib.hid (show (q ++ [((4, false), (4, false))] : List Syn).length + (m - 1) = n from by simp; omega)
              have hq9 : q.length ≤ 1000000 := by omega
              go_wp2_with (at_builtin; refine append_syn _ rfl _ _ rfl _ _ _ rfl hi ((4, false), (4, false)) rfl hq9 hz ?_; intro v' w6 i6 g6; refine Hid.out ?_)
              have G6 : w.grownBy w6 (some b) := hg.andThen g6 (fun q hq => .inl (by have := hi.own_ge hq; exact this))
              have s6 := hs.keep g6 (by intro e; have := hi.own_ge e.symm; omega)
              clear hi hs hg g6
              refine Lib.hid ?_
              go_wp2
              go_roundw
              case rel => exact ⟨_, m - 1, by go_num, HL.out, i6, s6, G6⟩
              case measure => simp [intOf]; omega
            · obtain rfl : m = 0 := by omega
              go_wp2
              go_ret
              first | exact ⟨_, rfl, _, hi, by omega, Full.pos (by omega), hs.mono (by omega), hg⟩ | exact ⟨_, _, rfl, hi, by omega, Full.pos (by omega), hs.mono (by omega), hg⟩
        · have e0 : (y == 0) = false := by simpa using h0
          have e1 : (y == 1) = false := by simpa using h1
          have e2 : (y == 2) = false := by simpa using h2
          have e3 : (y == 3) = false := by simpa using h3
          clear h0 h1 h2 h3
          by_cases h4 : y = 4
          · subst h4
            have HP := pick_any a len cap b (k + 100 + 1 + 1) 5 zs w3 s3 (HROW.out _ G3) hlen (by omega) (by omega)
            go_wp2_with fail
            refine HP.mono ?_
            rintro e w4 ⟨z, rfl, hz, s4, g4⟩
            have i4 := i3.keepb g4 hbw
            have G4 := G3.trans g4
            obtain ⟨c40, c41, _, _⟩ := i4.four j hj
            have f4 := i4.free (j * 4)
            have f5 := i4.free (j * 4 + 1)
            have HI := Lib.hid (fun (v : Int) (c : Bool) => put_two i4 j hj v c)
            have HG := Lib.hid (fun (v u : Value) => grown_new (grown_new G4 (j * 4) hBg v) (j * 4 + 1) hBg u)
            have HS := Lib.hid (fun (v u : Value) => (s4.set (j * 4) (show b ≠ g by omega) v).set (j * 4 + 1) (show b ≠ g by omega) u)
            have HL := Lib.hid (fun (v : Int) (c : Bool) => show (p.set j ((v, c), (p.getD j s0).2)).length ≤ 8 ∧ 1 ≤ (p.set j ((v, c), (p.getD j s0).2)).length from by simp; omega)
            clear HP i3 i4 s3 s4 G3 G4 g4
            generalize p.getD j s0 = zq at *
            generalize p.length = n at *
            go_wp2
            go_ret
            first | exact ⟨_, rfl, _, HI.out _ _, (HL.out _ _).1, Full.pos (HL.out _ _).2, (HS.out _ _).mono (by omega), HG.out _ _⟩ | exact ⟨_, _, rfl, HI.out _ _, (HL.out _ _).1, Full.pos (HL.out _ _).2, (HS.out _ _).mono (by omega), HG.out _ _⟩
          · have e4 : (y == 4) = false := by simpa using h4
            clear h4
            go_wp2
            go_ret
            first | exact ⟨_, rfl, _, i3, by omega, Full.pos hp1, s3.mono (by omega), G3⟩ | exact ⟨_, _, rfl, i3, by omega, Full.pos hp1, s3.mono (by omega), G3⟩
end Go.Proofs.Ytgjmhihomklooaa
