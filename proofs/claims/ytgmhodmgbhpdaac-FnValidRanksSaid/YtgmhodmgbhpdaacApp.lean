/- Appends to lists of the call's own: of a whole list; where the list lies afterwards. -/
import Derived.Test.YtgmhodmgbhpdaacArr
import Derived.Maps.AppendAt
import Derived.Deep.AppendLies
namespace Go.Proofs.Ytgmhodmgbhpdaac
open Go.ChangeShapes Go.WideShapes Go.ChangeAt Go.RowKit Go.Joins
set_option linter.unusedVariables false

/-- an append of a list in memory to a list of the call's own that is still empty -/
theorem append_all {ops : Array Oper} {rest : List Oper} {o : Oper} {a : Act} {Q : Exit → Act → World → Prop} (hgd : o.guard = none) (s x : Operand)
    (ho : o.op = .call { callee := .builtin .append, args := #[s, x], argTypes := #[22, 22] }) (base : Nat) (w1 : World) (sa : Option Addr) (cap cx g off : Nat) (l : List Int)
    (hs : a.eval s = .slice sa 0 cap) (hx : a.eval x = .slice (some ⟨g, off, none⟩) l.length cx) (R : Row base w1 sa cap []) (hl : l.length ≤ 2000000) (h0 : 0 < l.length) (hb : base ≤ w1.heap.size)
    (hc : ∀ i, i < l.length → w1.cell? ⟨g, off + i, none⟩ = some (.int .i64 (l.getD i 0)))
    (h : ∀ g cap' w', Row base w' (some ⟨g, 0, none⟩) cap' l → Below base w1 w' → wpList Try.prog ops Q rest (a.put o.dst (.slice (some ⟨g, 0, none⟩) l.length cap')) w') :
    wpList Try.prog ops Q (o :: rest) a w1 := by
  obtain ⟨i0, hi, hz0, hz1, hz2⟩ := info_parts Try.infoInt
  refine wpList_append_own _ hgd s x 22 ho base 3 i0 (.int .i64 0) 1 8 Try.underlying22 hi hz0 hz1 hz2 rfl (by decide) (.slice sa 0 cap) 0 [] hs R.own ⟨g, off, none⟩ l.length cx (l.map (Value.int .i64)) hx (by simp) ?_ ?_ (by unfold maxLen; omega) (by omega) hb ?_
  · intro j u hj
    rw [List.getElem?_map] at hj
    by_cases hjl : j < l.length
    · have := hc j hjl
      rw [List.getD_eq_getElem?_getD] at this
      rw [List.getElem?_eq_getElem hjl] at hj this
      simp at hj this
      subst hj
      by_cases hj0 : j = 0
      · subst hj0; simpa [Addr.add] using this
      · simpa [Addr.add, hj0] using this
    · rw [List.getElem?_eq_none (by omega)] at hj; simp at hj
  · intro u hu
    obtain ⟨x, _, rfl⟩ := List.mem_map.1 hu
    rfl
  · intro v' w2 hown hgrow hnil
    rw [Nat.zero_add, List.nil_append] at hown
    obtain ⟨g', cap', rfl⟩ := ownsRow_form hown h0
    refine h g' cap' w2 hown ((Below.refl _ _).grown hgrow hb fun k hk => ?_)
    exact (World.ownsRow.lt R.own k hk).1

/-- an append of one number to a list of the call's own; where the list lies afterwards, and what else stays -/
theorem append_int_at {ops : Array Oper} {rest : List Oper} {o : Oper} {a : Act} {Q : Exit → Act → World → Prop} (hgd : o.guard = none) (s x : Operand)
    (ho : o.op = .call { callee := .builtin .append, args := #[s, x], argTypes := #[22, 22] }) (base : Nat) (w1 : World) (b : Nat) (cap : Nat) (l : List Int) (v : Int) (T : TypeId)
    (hs : a.eval s = .slice (some ⟨b, 0, none⟩) l.length cap) (hx : a.eval x = .slice (some ⟨w1.heap.size, 0, none⟩) 1 1) (R : Row base w1 (some ⟨b, 0, none⟩) cap l) (hl : l.length ≤ 2000000) (hb : base ≤ w1.heap.size)
    (h : ∀ g cap' w', Row base w' (some ⟨g, 0, none⟩) cap' (l ++ [v]) → Below base w1 w' → (g = b ∨ w1.heap.size ≤ g) → (∀ k, k < w1.heap.size → k ≠ b → w'.heap[k]? = w1.heap[k]?) → wpList Try.prog ops Q rest (a.put o.dst (.slice (some ⟨g, 0, none⟩) (l.length + 1) cap')) w') :
    wpList Try.prog ops Q (o :: rest) a (w1.alloc (.cells #[.int .i64 v] T)) := by
  obtain ⟨i0, hi, hz0, hz1, hz2⟩ := info_parts Try.infoInt
  have hA : Below base w1 (w1.alloc (.cells #[.int .i64 v] T)) := (Below.refl _ _).alloc hb _
  refine wpList_append_own_at _ hgd s x 22 ho base 3 i0 (.int .i64 0) 1 8 Try.underlying22 hi hz0 hz1 hz2 rfl (by decide) _ _ _ hs (R.own.alloc _) ⟨w1.heap.size, 0, none⟩ 1 1 [.int .i64 v] hx rfl (one_news _ _ _) (by simp [Value.oneCell']) (by unfold maxLen; omega) (by omega) (by first | omega | (simp; done) | (simp; omega)) ?_
  intro v' w2 hown hgrow hnil hat
  obtain ⟨g, cap', rfl, hR⟩ := Row.grown hown rfl
  refine h g cap' w2 hR (hA.grown hgrow (by first | omega | (simp; done) | (simp; omega)) fun k hk => ?_) ?_ ?_
  · exact (World.ownsRow.lt R.own k hk).1
  · simp [Value.ownBlock] at hat
    rcases hat with e | e
    · exact .inl e
    · right; omega
  · intro k hk hkb
    have := hgrow.block k (by simp; omega) (by simp [Value.ownBlock]; omega)
    rw [this, Below.heap_alloc _ _ _ hk]

theorem copyInts_any (sa : Option Addr) (cap : Nat) (l : List Int) (w : World) (h : Lst w sa l) (hl : l.length ≤ 2000000) (h0 : 0 < l.length) :
    Calls Try.prog 103 #[.slice sa l.length cap] w (RetList l w) := by
  rcases h with h | ⟨g, off, rfl, hg, hc⟩
  · subst h; simp at h0
  have HC := hide (show ∀ i, i < l.length → (w.alloc (.cells #[] 3)).cell? ⟨g, off + i, none⟩ = some (.int .i64 (l.getD i 0)) from fun i hi => (((Below.refl _ w).alloc (Nat.le_refl _) _).cell (p := ⟨g, off + i, none⟩) hg).trans (hc i hi))
  clear hc
  go_enter Try.func103, Try.ntmps103
  go_wp2_with (first | (at_builtin; refine append_all rfl _ _ rfl w.heap.size _ _ _ cap g off l rfl rfl (Row.made _ w (Nat.le_refl _)) (by omega) h0 (by simp) HC.out ?_; intro g2 cap2 w2 R2 hb2))
  have HR2 := hide R2
  have B2 := hide (((Below.refl w.heap.size w).alloc (Nat.le_refl _) (.cells #[] 3)).trans hb2)
  clear R2 hb2 HC
  go_wp2
  go_ret
  exact ⟨_, _, rfl, HR2.out, B2.out⟩

theorem Try.sizeInt : (Try.prog.info? 3).map (·.size) = some 1 := by kernel_rfl
theorem add_addr (b off i : Nat) : (⟨b, off, none⟩ : Addr).add i = ⟨b, off + i, none⟩ := by
  unfold Addr.add; split <;> simp_all
theorem Lst.src {w : World} {sa : Option Addr} {l : List Int} (h : Lst w sa l) (h0 : 0 < l.length) : ∃ ad, sa = some ad ∧ ∀ j v, (l.map (Value.int .i64))[j]? = some v → w.cell? (ad.add j) = some v := by
  rcases h with h | ⟨g, off, h1, h2, h3⟩
  · subst h; simp at h0
  · refine ⟨_, h1, fun j v hj => ?_⟩
    rw [List.getElem?_map] at hj
    by_cases hjl : j < l.length
    · rw [add_addr, h3 j hjl]
      rw [List.getElem?_eq_getElem hjl] at hj
      rw [List.getD_eq_getElem?_getD, List.getElem?_eq_getElem hjl]
      simpa using hj
    · rw [List.getElem?_eq_none (by omega)] at hj; simp at hj
/-- a copy of a whole list into a list that was just made at its length -/
theorem copy_all {ops : Array Oper} {rest : List Oper} {o : Oper} {a : Act} {Q : Exit → Act → World → Prop} {w1 : World} {sa : Option Addr} {cap : Nat} {l : List Int} {d s : Operand} (hgd : o.guard = none)
    (ho : o.op = .call { callee := .builtin .copy, args := #[d, s], argTypes := #[22, 22] }) (hd : a.eval d = .slice (some ⟨w1.heap.size, 0, none⟩) l.length l.length) (hs : a.eval s = .slice sa l.length cap)
    (h : Lst w1 sa l) (hk : ∀ w2, Arr w2 w1.heap.size l → Ext w1 w2 → wpList Try.prog ops Q rest (a.put o.dst (goInt l.length)) w2) :
    wpList Try.prog ops Q (o :: rest) a (w1.alloc (.cells (ints (zeros l.length)) 3)) := by
  have hE := (Ext.refl w1).alloc (.cells (ints (zeros l.length)) 3)
  refine wpList_copy_splice hgd d s 22 22 ho 3 Try.underlying22 Try.sizeInt _ sa l.length l.length l.length cap hd hs w1.heap.size 0 ((zeros l.length).map (Value.int .i64)) 3 (Arr.new w1 _) (l.map (Value.int .i64)) (by simp) ?_ (by simp [zeros]) ?_ w1.heap.size w1 hE (Nat.le_refl _) ?_
  · intro h0
    obtain ⟨ad, e, hc⟩ := (h.ext hE).src (by simpa using h0)
    exact ⟨rfl, ad, e, hc⟩
  · intro v hv
    obtain ⟨x, _, rfl⟩ := List.mem_map.1 hv
    rfl
  · intro w2 hg hb
    have e : splice ((zeros l.length).map (Value.int .i64)) 0 (l.map (Value.int .i64)) = l.map (Value.int .i64) := by
      simp [splice, zeros]
    have hA : Arr w2 w1.heap.size l := by have := hg.out; rw [e] at this; exact this
    have := hk w2 hA hb
    simpa using this

/-- an append of one number to a list of the call's own, at a step of a drawn region -/
theorem step_append_int {ops : Array Oper} {o : Oper} {a : Act} {K : Act → World → Prop} {Q : Exit → Act → World → Prop} {E : Prop} {s x : Operand} (hgd : o.guard = none)
    (ho : o.op = .call { callee := .builtin .append, args := #[s, x], argTypes := #[22, 22] }) {base : Nat} {w1 : World} {sa : Option Addr} {cap : Nat} {l : List Int} {v : Int} {T : TypeId} {g0 : Nat}
    (hs : a.eval s = .slice sa l.length cap) (hx : a.eval x = .slice (some ⟨g0, 0, none⟩) 1 1) (X : Box w1 g0 #[.int .i64 v] T) (R : Row base w1 sa cap l) (hl : l.length ≤ 2000000) (hb : base ≤ w1.heap.size)
    (h : ∀ g cap' w', Row base w' (some ⟨g, 0, none⟩) cap' (l ++ [v]) → Below base w1 w' → K (a.put o.dst (.slice (some ⟨g, 0, none⟩) (l.length + 1) cap')) w') :
    if Region.wanted o (yielded ops a.tmps) = true then Oper.wp Try.prog o a w1 K Q else E := by
  obtain ⟨i0, hi, hz0, hz1, hz2⟩ := info_parts Try.infoInt
  refine step_append_lies w1 hgd s x 22 ho base 3 i0 (.int .i64 0) 1 8 Try.underlying22 hi hz0 hz1 hz2 rfl (by decide) _ _ _ hs R.own ⟨g0, 0, none⟩ 1 1 [.int .i64 v] hx rfl (World.news_of_block X) (by simp [Value.oneCell']) (by omega) (by unfold maxLen; omega) (by omega) hb _ rfl ?_
  intro g cap' w2 hown hgrow hat hlt
  obtain ⟨g', cap'', e, hR⟩ := Row.grown hown rfl
  simp only [Value.slice.injEq, Option.some.injEq, Addr.mk.injEq] at e
  obtain ⟨⟨rfl, _⟩, _, rfl⟩ := e
  exact h g cap' w2 hR ((Below.refl _ _).grown hgrow hb fun k hk => (World.ownsRow.lt R.own k hk).1)
end Go.Proofs.Ytgmhodmgbhpdaac
