/- Lists of structs of three numbers, read out of what came in. -/
import Derived.Test.YtgmhodmgbhpdaadRev1
import Derived.Deep.Slices
namespace Go.Proofs.Ytgmhodmgbhpdaad
open Go.ChangeShapes Go.WideShapes Go.ChangeAt Go.RowKit Go.Joins Go.Sort
set_option linter.unusedVariables false

theorem revs_open {H : Type} {enc : TypeId × Value → H} {P : Program} {w : World} {base : Nat} {spare : Nat → Bool} {held : Bool} {t e : TypeId} {f0 f1 f2 : Field} {fuel : Nat} {cs : List Value} {x : DataW H × List MemPlace} (ht : P.underlying t = some (.slice e)) (he : P.underlying e = some (.struct #[f0, f1, f2]))
    (ce : P.cellsOf e = 3) (o0 : f0.offset = 0) (o1 : f1.offset = 1) (o2 : f2.offset = 2) (c0 : P.cellsOf f0.type = 1) (c1 : P.cellsOf f1.type = 1) (c2 : P.cellsOf f2.type = 1)
    (u0 : P.underlying f0.type = some (.int .i64)) (u1 : P.underlying f1.type = some (.int .i64)) (u2 : P.underlying f2.type = some (.int .i64))
    (h : DataW.trod enc P w base spare held fuel t cs = some x) : ∃ (sa : Option Addr) (cap : Nat) (ll : List Rv), cs = [.slice sa ll.length cap] ∧ Rst w sa ll ∧ ll.length ≤ maxLen := by
  rcases Go.Deep.open_slice ht h with ⟨rfl, _⟩ | ⟨a, len, cap, m, n, D, Pl, rfl, _, hl, hm, hmm, _, hx⟩
  · exact ⟨none, 0, [], rfl, .inl rfl, by unfold maxLen; simp⟩
  · have hlm : len ≤ m := by rw [hmm]; split <;> omega
    have each : ∀ i, ∃ r : Rv, i < len → w.cell? (a.add (i * 3)) = some (.int .i64 r.c) ∧ w.cell? (a.add (i * 3 + 1)) = some (.int .i64 r.v) ∧ w.cell? (a.add (i * 3 + 2)) = some (.int .i64 r.s) := by
      intro i
      by_cases hi : i < len
      · obtain ⟨cs', h1, h2⟩ := hx i (by omega)
        rw [ce] at h1
        obtain ⟨_, hlen, hcell⟩ := World.cells?_some h1
        obtain ⟨xs, k, hk, hxy, _, hxl, hf⟩ := DataW.trod_struct he h2
        match xs, hxl, cs', hlen with
        | [y0, y1, y2], _, [v0, v1, v2], _ =>
          have g0 := hf 0 f0 rfl
          have g1 := hf 1 f1 rfl
          have g2 := hf 2 f2 rfl
          simp [o0, o1, o2, c0, c1, c2] at g0 g1 g2
          have e0 := hcell 0 (by omega)
          have e1 := hcell 1 (by omega)
          have e2 := hcell 2 (by omega)
          rw [Go.Deep.add_add] at e0 e1 e2
          obtain ⟨a0, q0, _, _⟩ := DataW.trod_int u0 g0
          obtain ⟨a1, q1, _, _⟩ := DataW.trod_int u1 g1
          obtain ⟨a2, q2, _, _⟩ := DataW.trod_int u2 g2
          simp at q0 q1 q2
          subst q0 q1 q2
          exact ⟨⟨a0, a1, a2⟩, fun _ => ⟨by simpa using e0, by simpa using e1, by simpa using e2⟩⟩
      · exact ⟨Rv.z, fun h => absurd h hi⟩
    obtain ⟨F, hF⟩ := Classical.axiomOfChoice each
    have hat : ∀ i, i < len → ((List.range len).map F).getD i Rv.z = F i := fun i hi => by simp [List.getD_eq_getElem?_getD, hi]
    have hll : ((List.range len).map F).length = len := by simp
    refine ⟨some a, cap, (List.range len).map F, by rw [hll], ?_, by rw [hll]; omega⟩
    by_cases h0 : len = 0
    · left; rw [h0]; rfl
    · obtain ⟨b, off, spot⟩ := a
      obtain ⟨hc0, _⟩ := hF 0 (by omega)
      have hspot : spot = none := by simpa [Addr.add] using World.cell?_spot hc0
      subst hspot
      have ea : ∀ i, (⟨b, off, none⟩ : Addr).add i = ⟨b, off + i, none⟩ := by
        intro i; unfold Addr.add; split <;> simp_all
      refine .inr ⟨b, off, rfl, ?_, fun i hi => ?_⟩
      · rw [ea] at hc0; exact World.block_lt_of_cell? _ _ hc0
      · rw [hll] at hi
        obtain ⟨h1, h2, h3⟩ := hF i hi
        rw [ea] at h1 h2 h3
        rw [hat i hi]
        exact ⟨h1, h2, h3⟩
end Go.Proofs.Ytgmhodmgbhpdaad
