/- A map of counts: what 'm[k]++' does to it, step by step: the entry is made, then written. No conditions. -/
import Derived.Test.YtgdoadcpjgbioaaPrB
import Derived.WideKeyEntry
namespace Go.Proofs.Ytgdoadcpjgbioaa
open Go.RowKit
open Go.Maps (Keyed)
open Go.ChangeMaps (setBlock)
set_option linter.unusedSimpArgs false
set_option linter.unusedVariables false

theorem setBlock_twice (w : World) (b : Nat) (x y : Obj) : setBlock (setBlock w b x) b y = setBlock w b y := by simp [setBlock]

theorem entry_count {P : Program} {t k e : TypeId} {w : World} {b n : Nat} {D : DS} {key : Value} {kl : Lit} (KL : WideMaps.KeyLaw P k) (ht : P.underlying t = some (.map k e)) (he : P.underlying e = some (.int .i64))
    (hz : ∀ u : World, (zeroValue e).run P u = .ok (.int .i64 0) u) (h : w.ownsMap P k (plainElem P e) b n D) (hn : n < maxLen) (hkey : keyOf P k key = some kl) {c : Int}
    (hc : (Instr.lookup t (.map (some b)) key false).run P w = .ok (.int .i64 c) w) :
    ∃ (v0 : Value) (st : Nat) (W1 : World), (Instr.mapEntry t (.map (some b)) key).run P w = .ok (.tuple #[v0, goInt st]) W1 ∧ w.grownBy W1 (some b) ∧
      (Instr.lookup t (.map (some b)) key false).run P W1 = .ok (.int .i64 c) W1 ∧
      ∀ x : Int, (Lit.int .i64 x).wf = true → ∃ W2, (Instr.entryStore t (.map (some b)) (goInt st) (.int .i64 x)).run P W1 = .ok () W2 ∧ W2.ownsMap P k (plainElem P e) b (n + 1) (D.put kl (.lit (.int .i64 x))) ∧ w.grownBy W2 (some b) := by
  have K : Keyed P k := Keyed.of_law KL
  have h0 := h
  obtain ⟨es, clock, hb, F, hs, hD⟩ := h
  obtain ⟨v0, st, es1, clock1, hE, hcase, hS⟩ := WideElems.entry_then_store KL ht hz hb F hkey
  have hlt : b < w.heap.size := h0.lt
  have hgr : ∀ o : Obj, w.grownBy (setBlock w b o) (some b) := fun o => ⟨rfl, rfl, rfl, by simp [setBlock], fun i _ hi => by
    have hne : b ≠ i := fun q => hi (by rw [q])
    simp [setBlock, Array.getElem?_setIfInBounds, hne]⟩
  have hat : ∀ o : Obj, (setBlock w b o).heap[b]? = some o := fun o => by simp [setBlock, hlt]
  refine ⟨v0, st, setBlock w b (.map es1 clock1), hE, hgr _, ?_, fun x hx => ?_⟩
  · have own1 : ∀ (W : World) (m : Nat) (D1 : DS), W.ownsMap P k (plainElem P e) b m D1 → D1.atKey kl (.lit (.int .i64 0)) = .lit (.int .i64 c) → (Instr.lookup t (.map (some b)) key false).run P W = .ok (.int .i64 c) W := by
      intro W m D1 hw hk
      obtain ⟨c1, hr, ha, _⟩ := hw.lookup_int K ht he (hz W) hkey
      rw [hk] at ha
      have : c = c1 := by simpa using ha
      rw [this]; exact hr
    obtain ⟨c0, hr0, ha0, _⟩ := h0.lookup_int K ht he (hz w) hkey
    rw [hc] at hr0
    have hcc : c = c0 := by simpa using hr0
    subst hcc
    rcases KL.find w hkey es.toList F.keys with ⟨f1, f2⟩ | ⟨j, e0, f1, f2, f3⟩
    · have hE2 : (Instr.mapEntry t (.map (some b)) key).run P w = .ok (.tuple #[.int .i64 0, goInt clock]) (setBlock w b (.map (es.push ⟨key, .int .i64 0, clock⟩) (clock + 1))) := by
        simp [Instr.mapEntry, Result.andThen, run_underlying ht, setBlock, MapKept.run_getObj_map hb, f1, KL.check w false hkey, MapKept.run_setObj_map _ hb, hz]
      have hU2 : (Instr.mapUpdate t (.map (some b)) key (.int .i64 0)).run P w = .ok () (setBlock w b (.map (es.push ⟨key, .int .i64 0, clock⟩) (clock + 1))) := by
        simp [Instr.mapUpdate, Result.andThen, run_underlying ht, setBlock, MapKept.run_getObj_map hb, f1, KL.check w false hkey, MapKept.run_setObj_map _ hb]
      have hL2 : (Instr.lookup t (.map (some b)) key false).run P w = .ok (.int .i64 0) w := by
        simp [Instr.lookup, Result.andThen, run_underlying ht, MapKept.run_getObj_map hb, f1, KL.check w es.isEmpty hkey, hz]
      rw [hc] at hL2
      have hc0 : c = 0 := by simpa using hL2
      subst hc0
      rw [hE2] at hE
      have hW : setBlock w b (.map (es.push ⟨key, .int .i64 0, clock⟩) (clock + 1)) = setBlock w b (.map es1 clock1) := by
        have := Result.ok.inj hE
        exact this.2
      obtain ⟨w', hr', ho', _⟩ := h0.update K ht hn hkey (val := .int .i64 0) (plainElem_int he (by decide))
      rw [hU2] at hr'
      have hw' : setBlock w b (.map (es.push ⟨key, .int .i64 0, clock⟩) (clock + 1)) = w' := (Result.ok.inj hr').2
      rw [← hW, hw']
      exact own1 _ _ _ ho' (Maps.atKey_put_same h0.isMap (K.key hkey) _ _)
    · have hj : es[j]? = some e0 := by simpa using f2
      have hsame : es.modify j (fun q => { q with key := key }) = es := by
        apply Array.ext'
        rw [Array.toList_modify, ChangeMaps.modify_eq_set _ _ _ _ f2, show ({ e0 with key := key } : MapEntry) = e0 from by rw [← f3]]
        exact WideElems.set_self _ _ _ f2
      have hE2 : (Instr.mapEntry t (.map (some b)) key).run P w = .ok (.tuple #[e0.val, goInt e0.born]) (setBlock w b (.map es clock)) := by
        simp [Instr.mapEntry, Result.andThen, run_underlying ht, setBlock, MapKept.run_getObj_map hb, f1, KL.check w false hkey, MapKept.run_setObj_map _ hb, hj, f3, KL.stays w hkey, hsame]
      rw [hE2] at hE
      have hW : setBlock w b (.map es clock) = setBlock w b (.map es1 clock1) := (Result.ok.inj hE).2
      rw [← hW]
      exact own1 _ n D ⟨es, clock, hat _, F, hs, hD⟩ ha0
  · obtain ⟨es', clock', hR, hU⟩ := hS (setBlock w b (.map es1 clock1)) (.int .i64 x) (hat _)
    obtain ⟨w', hr', ho', hg'⟩ := h0.update K ht hn hkey (val := .int .i64 x) (plainElem_int he hx)
    rw [hU] at hr'
    have hw' : setBlock w b (.map es' clock') = w' := (Result.ok.inj hr').2
    rw [setBlock_twice] at hR
    exact ⟨_, hR, by rw [hw']; exact ho', hgr _⟩
end Go.Proofs.Ytgdoadcpjgbioaa
