/- Chapter 2: lists of lists, cut and joined: an append of many lists to a list of lists of the call's own; the lists themselves lie where they lay. -/
import Derived.Test.YtgmhodmgbhpdaacBack1
import Derived.Test.YtgmhodmgbhpdaacAppL
namespace Go.Proofs.Ytgmhodmgbhpdaac
open Go.ChangeShapes Go.WideShapes Go.ChangeAt Go.RowKit Go.Joins Go.Sort
set_option linter.unusedVariables false

/-- a list of lists of the call's own, whose lists may lie anywhere -/
structure HRow (base : Nat) (w : World) (sa : Option Addr) (cap : Nat) (ll : List (List Int)) (hs : Heads) : Prop where
  len : hs.length = ll.length
  own : w.ownsRow base 22 1 (.slice sa ll.length cap) ll.length (cellsM hs ll)
theorem HRow.made (base g : Nat) (w : World) (hg : g = w.heap.size) (hb : base ≤ g) : HRow base (w.alloc (.cells #[] 22)) (some ⟨g, 0, none⟩) 0 [] [] := by
  subst hg
  exact ⟨rfl, World.ownsRow_made w #[] 0 hb (by unfold maxLen; omega) (by simp)⟩
theorem HRow.ext {base : Nat} {w w' : World} {sa : Option Addr} {cap : Nat} {ll : List (List Int)} {hs : Heads} (h : HRow base w sa cap ll hs) (e : Ext w w') : HRow base w' sa cap ll hs := ⟨h.len, ownsRow_ext h.own e⟩
theorem HRow.mst {base : Nat} {w : World} {sa : Option Addr} {cap : Nat} {ll : List (List Int)} {hs : Heads} (h : HRow base w sa cap ll hs) (hr : ∀ i, i < ll.length → Lst w (hs.getD i (none, 0)).1 (ll.getD i []) ∧ (ll.getD i []).length ≤ (hs.getD i (none, 0)).2) : Mst w sa ll := by
  obtain ⟨h1, h2⟩ := h.own
  rcases h2 with ⟨h2, h3⟩ | ⟨g, c, cur, h2, h3, h4, h5, h6, h7, h8⟩
  · exact .inl (List.length_eq_zero_iff.1 h3)
  · simp only [Value.slice.injEq] at h2
    obtain ⟨rfl, _, rfl⟩ := h2
    refine .inr ⟨g, 0, rfl, size_of_heap h4, fun i hi => ⟨(hs.getD i (none, 0)).1, (hs.getD i (none, 0)).2, ?_, (hr i hi).1, (hr i hi).2⟩⟩
    have e : (cur.toList.take (ll.length * 1))[i]? = (cellsM hs ll)[i]? := by rw [h8]
    rw [List.getElem?_take_of_lt (by omega), cellsM_at h.len hi] at e
    rw [cell_of_block h4]; simpa [hcell] using e
theorem append_heads {ops : Array Oper} {rest : List Oper} {o : Oper} {a : Act} {Q : Exit → Act → World → Prop} (hgd : o.guard = none) (s x : Operand)
    (ho : o.op = .call { callee := .builtin .append, args := #[s, x], argTypes := #[44, 44] }) (base : Nat) (w1 : World) (sa : Option Addr) (n m cap cx g off : Nat) (l1 l : List (List Int)) (hs1 hs2 : Heads)
    (hse : a.eval s = .slice sa n cap) (hx : a.eval x = .slice (some ⟨g, off, none⟩) m cx) (hn : l1.length = n) (hm : l.length = m) (R : HRow base w1 sa cap l1 hs1) (h2 : hs2.length = l.length) (hl1 : n ≤ 1000000) (hl : m ≤ 1000000) (h0 : 0 < m) (hb : base ≤ w1.heap.size)
    (hc : ∀ i, i < l.length → w1.cell? ⟨g, off + i, none⟩ = some (hcell (hs2.getD i (none, 0)) (l.getD i [])))
    (h : ∀ g cap' w', HRow base w' (some ⟨g, 0, none⟩) cap' (l1 ++ l) (hs1 ++ hs2) → Below base w1 w' → wpList Try.prog ops Q rest (a.put o.dst (.slice (some ⟨g, 0, none⟩) (n + m) cap')) w') :
    wpList Try.prog ops Q (o :: rest) a w1 := by
  subst hn hm
  obtain ⟨i0, hi, hz0, hz1, hz2⟩ := info_parts Try.infoRow
  refine wpList_append_own _ hgd s x 44 ho base 22 i0 (.slice none 0 0) 1 24 Try.underlying44 hi hz0 hz1 hz2 rfl (by decide) _ _ _ hse R.own ⟨g, off, none⟩ l.length cx (cellsM hs2 l) hx (by rw [cellsM_len h2]; simp) ?_ ?_ (by unfold maxLen; omega) (by omega) hb ?_
  · intro j u hj
    by_cases hjl : j < l.length
    · rw [cellsM_at h2 hjl] at hj
      have := hc j hjl
      obtain rfl := Option.some.inj hj
      by_cases hj0 : j = 0
      · subst hj0; simpa [Addr.add] using this
      · simpa [Addr.add, hj0] using this
    · rw [List.getElem?_eq_none (by rw [cellsM_len h2]; omega)] at hj; simp at hj
  · intro u hu
    obtain ⟨j, hj, e⟩ := List.getElem_of_mem hu
    have e2 := cellsM_at h2 (show j < l.length by rw [cellsM_len h2] at hj; exact hj)
    rw [List.getElem?_eq_getElem hj, e] at e2
    obtain rfl := Option.some.inj e2
    rfl
  · intro v' w2 hown hgrow hnil
    obtain ⟨g', cap', rfl⟩ := ownsRow_form hown (by omega)
    refine h g' cap' w2 ⟨by rw [List.length_append, List.length_append, R.len, h2], ?_⟩ ((Below.refl _ _).grown hgrow hb fun k hk => (World.ownsRow.lt R.own k hk).1)
    rw [List.length_append, show cellsM (hs1 ++ hs2) (l1 ++ l) = cellsM hs1 l1 ++ cellsM hs2 l by unfold cellsM; rw [List.zipWith_append R.len]]
    exact hown
end Go.Proofs.Ytgmhodmgbhpdaac
