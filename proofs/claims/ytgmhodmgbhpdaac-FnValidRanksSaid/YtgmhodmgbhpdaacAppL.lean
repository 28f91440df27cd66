/- Chapter 2: appends of whole lists, of nothing; parts of lists; lists of lists beside a reader. -/
import Derived.Test.YtgmhodmgbhpdaacDrawB
import Derived.Test.YtgmhodmgbhpdaacMat
import Derived.Test.YtgmhodmgbhpdaacWins
import Derived.Deep.Upon
import Derived.Deep.AppendSrc
namespace Go.Proofs.Ytgmhodmgbhpdaac
open Go.ChangeShapes Go.WideShapes Go.ChangeAt Go.RowKit Go.Joins
set_option linter.unusedVariables false

/-- nothing is appended -/
theorem append_none {ops : Array Oper} {rest : List Oper} {o : Oper} {a : Act} {Q : Exit → Act → World → Prop} (hgd : o.guard = none) (s x : Operand)
    (ho : o.op = .call { callee := .builtin .append, args := #[s, x], argTypes := #[22, 22] }) (w1 : World) (sa sx : Option Addr) (n cap cx : Nat)
    (hs : a.eval s = .slice sa n cap) (hx : a.eval x = .slice sx 0 cx) (hle : n ≤ cap) (h : wpList Try.prog ops Q rest (a.put o.dst (.slice sa n cap)) w1) :
    wpList Try.prog ops Q (o :: rest) a w1 := by
  obtain ⟨i0, hi, hz0, hz1, hz2⟩ := info_parts Try.infoInt
  refine wpList_plain hgd fun K hK' => ?_
  have hsrc : Src Try.prog i0.size 22 (.slice sx 0 cx) 0 [] w1 := by
    cases sx with
    | none => exact Src.ofNil w1 Try.underlying22 cx
    | some ad => exact Src.ofSlice w1 Try.underlying22 ad 0 cx [] (by simp) (fun j u hj => by simp at hj) (by simp)
  have hrun := run_append_nothing (P := Try.prog) w1 22 22 o.type 3 i0 Try.underlying22 hi sa n cap hle (.slice sx 0 cx) hsrc
  unfold Oper.wp
  simp [execOp, ho, resolve, invoke, builtin, hs, hx, hrun, Result.andThen]
  exact hK' _ _ h
/-- an append of a list in memory to a list of the call's own -/
theorem append_list {ops : Array Oper} {rest : List Oper} {o : Oper} {a : Act} {Q : Exit → Act → World → Prop} (hgd : o.guard = none) (s x : Operand)
    (ho : o.op = .call { callee := .builtin .append, args := #[s, x], argTypes := #[22, 22] }) (base : Nat) (w1 : World) (sa : Option Addr) (n m cap cx g off : Nat) (l1 l : List Int)
    (hs : a.eval s = .slice sa n cap) (hx : a.eval x = .slice (some ⟨g, off, none⟩) m cx) (hn : l1.length = n) (hm : l.length = m) (R : Row base w1 sa cap l1) (hl1 : n ≤ 1000000) (hl : m ≤ 1000000) (h0 : 0 < m) (hb : base ≤ w1.heap.size)
    (hc : ∀ i, i < l.length → w1.cell? ⟨g, off + i, none⟩ = some (.int .i64 (l.getD i 0)))
    (h : ∀ g cap' w', Row base w' (some ⟨g, 0, none⟩) cap' (l1 ++ l) → Below base w1 w' → wpList Try.prog ops Q rest (a.put o.dst (.slice (some ⟨g, 0, none⟩) (n + m) cap')) w') :
    wpList Try.prog ops Q (o :: rest) a w1 := by
  subst hn hm
  obtain ⟨i0, hi, hz0, hz1, hz2⟩ := info_parts Try.infoInt
  refine wpList_append_own _ hgd s x 22 ho base 3 i0 (.int .i64 0) 1 8 Try.underlying22 hi hz0 hz1 hz2 rfl (by decide) _ _ _ hs R.own ⟨g, off, none⟩ l.length cx (l.map (Value.int .i64)) hx (by simp) ?_ ?_ (by unfold maxLen; omega) (by omega) hb ?_
  · intro j u hj
    rw [List.getElem?_map] at hj
    by_cases hjl : j < l.length
    · have := hc j hjl
      rw [List.getD_eq_getElem?_getD] at this
      rw [List.getElem?_eq_getElem hjl] at hj this
      simp at hj this
      subst hj
      by_cases hj0 : j = 0
      · subst hj0; simpa [Addr.add] using this
      · simpa [Addr.add, hj0] using this
    · rw [List.getElem?_eq_none (by omega)] at hj; simp at hj
  · intro u hu
    obtain ⟨x, _, rfl⟩ := List.mem_map.1 hu
    rfl
  · intro v' w2 hown hgrow hnil
    obtain ⟨g', cap', rfl⟩ := ownsRow_form hown (by omega)
    refine h g' cap' w2 ?_ ((Below.refl _ _).grown hgrow hb fun k hk => (World.ownsRow.lt R.own k hk).1)
    show w2.ownsRow base 3 1 (.slice (some ⟨g', 0, none⟩) (l1 ++ l).length cap') (l1 ++ l).length ((l1 ++ l).map (Value.int .i64))
    rw [List.map_append, List.length_append]; exact hown
/-- .. of one number, where the list lies told by its length -/
theorem append_int_atN {ops : Array Oper} {rest : List Oper} {o : Oper} {a : Act} {Q : Exit → Act → World → Prop} (hgd : o.guard = none) (s x : Operand)
    (ho : o.op = .call { callee := .builtin .append, args := #[s, x], argTypes := #[22, 22] }) (base : Nat) (w1 : World) (b : Nat) (n cap : Nat) (l : List Int) (v : Int) (T : TypeId)
    (hs : a.eval s = .slice (some ⟨b, 0, none⟩) n cap) (hx : a.eval x = .slice (some ⟨w1.heap.size, 0, none⟩) 1 1) (hn : l.length = n) (R : Row base w1 (some ⟨b, 0, none⟩) cap l) (hl : n ≤ 2000000) (hb : base ≤ w1.heap.size)
    (h : ∀ g cap' w', Row base w' (some ⟨g, 0, none⟩) cap' (l ++ [v]) → Below base w1 w' → (g = b ∨ w1.heap.size ≤ g) → (∀ k, k < w1.heap.size → k ≠ b → w'.heap[k]? = w1.heap[k]?) → wpList Try.prog ops Q rest (a.put o.dst (.slice (some ⟨g, 0, none⟩) (n + 1) cap')) w') :
    wpList Try.prog ops Q (o :: rest) a (w1.alloc (.cells #[.int .i64 v] T)) := by
  subst hn
  exact append_int_at hgd s x ho base w1 b cap l v T hs hx R hl hb h
theorem Lst.cells {w : World} {sa : Option Addr} {l : List Int} (h : Lst w sa l) (h0 : 0 < l.length) : ∃ g off, sa = some ⟨g, off, none⟩ ∧ g < w.heap.size ∧ ∀ i, i < l.length → w.cell? ⟨g, off + i, none⟩ = some (.int .i64 (l.getD i 0)) := by
  rcases h with h | ⟨g, off, h1, h2, h3⟩
  · subst h; simp at h0
  · exact ⟨g, off, h1, h2, h3⟩
theorem Lst.drop {w : World} {g off : Nat} {l : List Int} (h : Lst w (some ⟨g, off, none⟩) l) (k : Nat) : Lst w (some ⟨g, off + k, none⟩) (l.drop k) := by
  rcases h with h | ⟨g2, off2, h1, h2, h3⟩
  · subst h; exact .inl (by simp)
  · cases h1
    refine .inr ⟨_, _, rfl, h2, fun i hi => ?_⟩
    rw [List.length_drop] at hi
    have := h3 (k + i) (by omega)
    rw [show off + k + i = off + (k + i) by omega, this]
    congr 2
    rw [List.getD_eq_getElem?_getD, List.getD_eq_getElem?_getD, List.getElem?_drop]
theorem Row.take {base : Nat} {w : World} {sa : Option Addr} {cap : Nat} {l : List Int} (h : Row base w sa cap l) {k : Nat} (hk : k ≤ l.length) : Row base w sa cap (l.take k) := by
  obtain ⟨h1, h2⟩ := h
  have hl : (l.take k).length = k := by rw [List.length_take]; omega
  refine ⟨by simp, ?_⟩
  rw [hl]
  rcases h2 with ⟨h2, h3⟩ | ⟨x, c, cur, h2, h3, h4, h5, h6, h7, h8⟩
  · left
    have hk0 : k = 0 := by omega
    simp only [Value.slice.injEq] at h2
    obtain ⟨rfl, _, rfl⟩ := h2
    exact ⟨by rw [hk0], hk0⟩
  · right
    simp only [Value.slice.injEq] at h2
    obtain ⟨rfl, _, rfl⟩ := h2
    refine ⟨x, cap, cur, rfl, h3, h4, by omega, h6, h7, ?_⟩
    rw [List.map_take, ← h8, List.take_take]
    congr 1
    omega
theorem copyInts_all (sa : Option Addr) (cap n : Nat) (l : List Int) (w : World) (h : Lst w sa l) (hn : l.length = n) (hl : n ≤ 2000000) :
    Calls Try.prog 103 #[.slice sa n cap] w (RetList l w) := by
  by_cases h0 : 0 < l.length
  · subst hn; exact copyInts_any sa cap l w h hl h0
  · have e : l = [] := List.length_eq_zero_iff.1 (by omega)
    subst e
    subst hn
    go_enter Try.func103, Try.ntmps103
    go_wp2_with (first | (at_builtin; refine append_none rfl (.tmp 3) (.tmp 4) rfl _ _ sa 0 0 cap rfl rfl (Nat.le_refl _) ?_))
    go_wp2
    go_ret
    exact ⟨some ⟨w.heap.size, 0, none⟩, 0, rfl, Row.made _ w (Nat.le_refl _), (Ext.refl w).alloc _⟩
theorem ownsRow_but {base g : Nat} {w w' : World} {T : TypeId} {v : Value} {n : Nat} {xs : List Value} (h : w.ownsRow base T 1 v n xs) (e : But g w w') (hg : g < base) : w'.ownsRow base T 1 v n xs := by
  obtain ⟨h1, h2⟩ := h
  refine ⟨h1, ?_⟩
  rcases h2 with h2 | ⟨x, c, cur, h2, h3, h4, h5⟩
  · exact .inl h2
  · exact .inr ⟨x, c, cur, h2, h3, (e.block x (size_of_heap h4) (by omega)).trans h4, h5⟩
theorem Mat.but {base g : Nat} {w w' : World} {sa : Option Addr} {cap : Nat} {ll : List (List Int)} {hs : Heads} (h : Mat base w sa cap ll hs) (e : But g w w') (hg : g < base) : Mat base w' sa cap ll hs :=
  ⟨h.len, ownsRow_but h.own e hg, fun i hi => (h.row i hi).but e hg, h.sep, h.out⟩
/-- all blocks of a list of lists lie below N -/
def MatLt (N : Nat) (sa : Option Addr) (ll : List (List Int)) (hs : Heads) : Prop := (∀ b, sa = some b → b.block < N) ∧ ∀ i b, i < ll.length → (hs.getD i (none, 0)).1 = some b → b.block < N
theorem Mat.lt {base : Nat} {w : World} {sa : Option Addr} {cap : Nat} {ll : List (List Int)} {hs : Heads} (h : Mat base w sa cap ll hs) : MatLt w.heap.size sa ll hs :=
  ⟨fun b hb => (h.outer_lt hb).2, fun i b hi hb => ((h.row i hi).block_lt hb).2⟩
/-- an append of a list that was made since, whatever else was written -/
theorem append_rowB {ops : Array Oper} {rest : List Oper} {o : Oper} {a : Act} {Q : Exit → Act → World → Prop} {s x : Operand} (hgd : o.guard = none)
    (ho : o.op = .call { callee := .builtin .append, args := #[s, x], argTypes := #[44, 44] }) {base N : Nat} {w1 : World} {sa : Option Addr} {cap n : Nat} {ll : List (List Int)} {hs : Heads} {si : Option Addr} {ci : Nat} {l : List Int} {T : TypeId}
    (hse : a.eval s = .slice sa ll.length cap) (hx : a.eval x = .slice (some ⟨w1.heap.size, 0, none⟩) 1 1) (hn : l.length = n) (M : Mat base w1 sa cap ll hs) (hN : MatLt N sa ll hs) (R : Row N w1 si ci l) (hl : ll.length ≤ 2000000) (hb : base ≤ N) (hN2 : N ≤ w1.heap.size)
    (h : ∀ g cap' w', Mat base w' (some ⟨g, 0, none⟩) cap' (ll ++ [l]) (hs ++ [(si, ci)]) → Below base w1 w' → wpList Try.prog ops Q rest (a.put o.dst (.slice (some ⟨g, 0, none⟩) (ll.length + 1) cap')) w') :
    wpList Try.prog ops Q (o :: rest) a (w1.alloc (.cells #[.slice si n ci] T)) := by
  subst hn
  obtain ⟨i0, hi, hz0, hz1, hz2⟩ := info_parts Try.infoRow
  have hA : Below base w1 (w1.alloc (.cells #[.slice si l.length ci] T)) := (Below.refl _ _).alloc (Nat.le_trans hb hN2) _
  have M1 := M.ext ((Ext.refl w1).alloc (.cells #[.slice si l.length ci] T))
  refine wpList_append_own_at _ hgd s x 44 ho base 22 i0 (.slice none 0 0) 1 24 Try.underlying44 hi hz0 hz1 hz2 rfl (by decide) _ _ _ hse M1.own ⟨w1.heap.size, 0, none⟩ 1 1 [.slice si l.length ci] hx rfl (one_news _ _ _) (by simp [Value.oneCell']) (by unfold maxLen; omega) (by omega) (by simp; omega) ?_
  intro v' w2 hown hgrow hnil hat
  obtain ⟨g, cap', rfl⟩ := ownsRow_form hown (by omega)
  refine h g cap' w2 (M1.snoc ((R.le hb).ext ((Ext.refl w1).alloc _)) (fun a ha => ?_) hgrow (fun k hk => ?_) hown (fun b hb2 => ?_)) (hA.grown hgrow (by simp; omega) fun k hk => ?_)
  · have hr := (R.block_lt ha).1
    refine ⟨fun b hb2 => ?_, fun i b hi hb2 => ?_⟩
    · have := hN.1 b hb2; omega
    · have := hN.2 i b hi hb2; omega
  · cases hsa : sa with
    | none => rw [hsa] at hk; simp [Value.ownBlock] at hk
    | some a => rw [hsa] at hk; simp only [Value.ownBlock, Option.some.injEq] at hk; exact ⟨a, rfl, hk⟩
  · simp only [Option.some.injEq] at hb2
    subst hb2
    rcases hat with e | e
    · left
      cases hsa : sa with
      | none => rw [hsa] at e; simp [Value.ownBlock] at e
      | some a => rw [hsa] at e; simp only [Value.ownBlock, Option.some.injEq] at e; exact ⟨a, rfl, e.symm⟩
    · right; simp only [Value.ownBlock, Option.some.injEq] at e; exact Nat.le_of_eq e.symm
  · cases hsa : sa with
    | none => rw [hsa] at hk; simp [Value.ownBlock] at hk
    | some a =>
      rw [hsa] at hk; simp only [Value.ownBlock, Option.some.injEq] at hk
      have := (M.outer_lt hsa).1
      omega
end Go.Proofs.Ytgmhodmgbhpdaac
