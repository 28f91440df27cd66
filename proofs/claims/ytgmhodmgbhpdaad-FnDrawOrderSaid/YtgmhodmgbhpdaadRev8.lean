/- Chapter 3: reveals that a call has made: lists of its own, appends of one reveal and of a whole list. -/
import Derived.Test.YtgmhodmgbhpdaadRev4
import Derived.Test.YtgmhodmgbhpdaadDrawB
import Derived.Test.YtgmhodmgbhpdaadAppI
import Derived.Deep.RegionHeld3
namespace Go.Proofs.Ytgmhodmgbhpdaad
open Go.ChangeShapes Go.WideShapes Go.ChangeAt Go.RowKit Go.Joins Go.Sort
set_option linter.unusedVariables false

theorem Rst.spot {w : World} {sa : Option Addr} {ll : List Rv} (h : Rst w sa ll) (h0 : 0 < ll.length) : ∃ g off, sa = some ⟨g, off, none⟩ ∧ g < w.heap.size ∧ Rst w (some ⟨g, off, none⟩) ll := by
  obtain ⟨g, off, rfl, hg, _⟩ := h.at h0
  exact ⟨g, off, rfl, hg, h⟩
def flatR : List Rv → List Int
  | [] => []
  | q :: t => q.c :: q.v :: q.s :: flatR t
theorem flatR_cons (q : Rv) (t : List Rv) : flatR (q :: t) = q.c :: q.v :: q.s :: flatR t := rfl
theorem flatR_len (ll : List Rv) : (flatR ll).length = ll.length * 3 := by
  induction ll with
  | nil => rfl
  | cons q t ih => rw [flatR_cons]; simp [ih]; omega
theorem flatR_append (a b : List Rv) : flatR (a ++ b) = flatR a ++ flatR b := by
  induction a with
  | nil => rfl
  | cons q t ih => rw [List.cons_append, flatR_cons, flatR_cons, ih]; rfl
theorem flatR_at (ll : List Rv) (i : Nat) : (flatR ll).getD (i * 3) 0 = (ll.getD i Rv.z).c ∧ (flatR ll).getD (i * 3 + 1) 0 = (ll.getD i Rv.z).v ∧ (flatR ll).getD (i * 3 + 2) 0 = (ll.getD i Rv.z).s := by
  induction ll generalizing i with
  | nil => simp [flatR, Rv.z]
  | cons q t ih =>
    cases i with
    | zero => exact ⟨rfl, rfl, rfl⟩
    | succ i =>
      have := ih i
      rw [flatR_cons, show (i + 1) * 3 = i * 3 + 1 + 1 + 1 by omega]
      exact this
theorem flatR_setc (ll : List Rv) (i : Nat) (x : Int) (h : i < ll.length) : (flatR ll).set (i * 3) x = flatR (ll.set i ⟨x, (ll.getD i Rv.z).v, (ll.getD i Rv.z).s⟩) := by
  induction ll generalizing i with
  | nil => simp at h
  | cons q t ih =>
    cases i with
    | zero => rfl
    | succ i =>
      rw [flatR_cons, show (i + 1) * 3 = i * 3 + 1 + 1 + 1 by omega]
      show q.c :: q.v :: q.s :: (flatR t).set (i * 3) x = _
      rw [ih i (by simpa using h)]; rfl
theorem flatR_setv (ll : List Rv) (i : Nat) (x : Int) (h : i < ll.length) : (flatR ll).set (i * 3 + 1) x = flatR (ll.set i ⟨(ll.getD i Rv.z).c, x, (ll.getD i Rv.z).s⟩) := by
  induction ll generalizing i with
  | nil => simp at h
  | cons q t ih =>
    cases i with
    | zero => rfl
    | succ i =>
      rw [flatR_cons, show (i + 1) * 3 + 1 = i * 3 + 1 + 1 + 1 + 1 by omega]
      show q.c :: q.v :: q.s :: (flatR t).set (i * 3 + 1) x = _
      rw [ih i (by simpa using h)]; rfl
theorem flatR_sets (ll : List Rv) (i : Nat) (x : Int) (h : i < ll.length) : (flatR ll).set (i * 3 + 2) x = flatR (ll.set i ⟨(ll.getD i Rv.z).c, (ll.getD i Rv.z).v, x⟩) := by
  induction ll generalizing i with
  | nil => simp at h
  | cons q t ih =>
    cases i with
    | zero => rfl
    | succ i =>
      rw [flatR_cons, show (i + 1) * 3 + 2 = i * 3 + 2 + 1 + 1 + 1 by omega]
      show q.c :: q.v :: q.s :: (flatR t).set (i * 3 + 2) x = _
      rw [ih i (by simpa using h)]; rfl
/-- shares that a call has made: they lie in memory from block 'base' on -/
def RowV (base : Nat) (w : World) (sa : Option Addr) (cap : Nat) (ll : List Rv) : Prop := w.ownsRow base 31 3 (.slice sa ll.length cap) ll.length ((flatR ll).map (Value.int .i64))
theorem RowV.own {base : Nat} {w : World} {sa : Option Addr} {cap : Nat} {ll : List Rv} (h : RowV base w sa cap ll) : w.ownsRow base 31 3 (.slice sa ll.length cap) ll.length ((flatR ll).map (Value.int .i64)) := h
theorem RowV.form {base : Nat} {w : World} {sa : Option Addr} {cap : Nat} {ll : List Rv} (h : RowV base w sa cap ll) (h0 : 0 < ll.length) :
    ∃ g cur, sa = some ⟨g, 0, none⟩ ∧ base ≤ g ∧ w.heap[g]? = some (.cells cur 31 (0, 0)) ∧ ∀ j, j < (flatR ll).length → cur[j]? = some (.int .i64 ((flatR ll).getD j 0)) := by
  obtain ⟨h1, h2⟩ := h
  rcases h2 with ⟨h2, h3⟩ | ⟨g, c, cur, h2, h3, h4, h5, h6, h7, h8⟩
  · omega
  · simp only [Value.slice.injEq] at h2
    obtain ⟨rfl, _, rfl⟩ := h2
    refine ⟨g, cur, rfl, h3, h4, fun j hj => ?_⟩
    have hj2 := hj
    rw [flatR_len] at hj2
    have e : (cur.toList.take (ll.length * 3))[j]? = ((flatR ll).map (Value.int .i64))[j]? := by rw [h8]
    rw [List.getElem?_take_of_lt (by omega), List.getElem?_map, List.getElem?_eq_getElem hj] at e
    rw [List.getD_eq_getElem?_getD, List.getElem?_eq_getElem hj]
    simpa using e
theorem RowV.spot {base : Nat} {w : World} {sa : Option Addr} {cap : Nat} {ll : List Rv} (h : RowV base w sa cap ll) (h0 : 0 < ll.length) :
    ∃ b, sa = some ⟨b, 0, none⟩ ∧ base ≤ b ∧ b < w.heap.size ∧ (∀ i, w.frozen? ⟨b, i, none⟩ = false) ∧ ∀ i, i < ll.length → w.cell? ⟨b, i * 3, none⟩ = some (.int .i64 (ll.getD i Rv.z).c) ∧ w.cell? ⟨b, i * 3 + 1, none⟩ = some (.int .i64 (ll.getD i Rv.z).v) ∧ w.cell? ⟨b, i * 3 + 2, none⟩ = some (.int .i64 (ll.getD i Rv.z).s) := by
  obtain ⟨g, cur, h1, h2, h3, h4⟩ := h.form h0
  refine ⟨g, h1, h2, size_of_heap h3, fun i => unfrozen_of_block h3 i, fun i hi => ?_⟩
  have hf := flatR_at ll i
  have hl := flatR_len ll
  rw [cell_of_block h3, cell_of_block h3, cell_of_block h3, h4 _ (by omega), h4 _ (by omega), h4 _ (by omega), hf.1, hf.2.1, hf.2.2]
  exact ⟨rfl, rfl, rfl⟩
theorem RowV.rst {base : Nat} {w : World} {sa : Option Addr} {cap : Nat} {ll : List Rv} (h : RowV base w sa cap ll) : Rst w sa ll := by
  by_cases h0 : 0 < ll.length
  · obtain ⟨b, h1, h2, h3, h4, h5⟩ := h.spot h0
    refine .inr ⟨b, 0, h1, h3, fun i hi => ?_⟩
    rw [Nat.zero_add]; exact h5 i hi
  · exact .inl (List.length_eq_zero_iff.1 (by omega))
theorem RowV.keep {base : Nat} {w w' : World} {sa : Option Addr} {cap : Nat} {ll : List Rv} (h : RowV base w sa cap ll) (hb : Below w.heap.size w w') : RowV base w' sa cap ll := by
  obtain ⟨h1, h2⟩ := h
  refine ⟨h1, ?_⟩
  rcases h2 with h2 | ⟨g, c, cur, h2, h3, h4, h5⟩
  · exact .inl h2
  · exact .inr ⟨g, c, cur, h2, h3, (hb.block g (size_of_heap h4)).trans h4, h5⟩
theorem RowV.ext {base : Nat} {w w' : World} {sa : Option Addr} {cap : Nat} {ll : List Rv} (h : RowV base w sa cap ll) (e : Ext w w') : RowV base w' sa cap ll := h.keep e
theorem RowV.le {base base' : Nat} {w : World} {sa : Option Addr} {cap : Nat} {ll : List Rv} (h : RowV base w sa cap ll) (hb : base' ≤ base) : RowV base' w sa cap ll := ownsRow_le h hb
theorem RowV.nil (base : Nat) (w : World) : RowV base w none 0 [] := World.ownsRow_nil _ _ _ _
theorem RowV.made (base : Nat) (w : World) (hb : base ≤ w.heap.size) : RowV base (w.alloc (.cells #[] 31)) (some ⟨w.heap.size, 0, none⟩) 0 [] :=
  World.ownsRow_made w #[] 0 hb (by unfold maxLen; omega) (by simp)
theorem RowV.cap {base : Nat} {w : World} {sa : Option Addr} {cap : Nat} {ll : List Rv} (r : RowV base w sa cap ll) : ll.length ≤ cap := by
  obtain ⟨h1, h2⟩ := r
  rcases h2 with ⟨h2, h3⟩ | ⟨g, c, cur, h2, h3, h4, h5, _⟩
  · omega
  · simp only [Value.slice.injEq] at h2; omega
theorem RowV.block_lt {base : Nat} {w : World} {sa : Option Addr} {cap : Nat} {ll : List Rv} (r : RowV base w sa cap ll) {a : Addr} (h : sa = some a) : base ≤ a.block ∧ a.block < w.heap.size := by
  obtain ⟨h1, h2⟩ := r
  rcases h2 with ⟨h2, _⟩ | ⟨b, c, cur, h2, h3, h4, h5⟩
  · simp only [Value.slice.injEq] at h2; rw [h] at h2; cases h2.1
  · simp only [Value.slice.injEq] at h2; rw [h] at h2
    have := h2.1; cases this
    exact ⟨h3, size_of_heap h4⟩
theorem RowV.but {base g : Nat} {a b : World} {sa : Option Addr} {cap : Nat} {ll : List Rv} (h : RowV base a sa cap ll) (e : But g a b) (hg : g < base) : RowV base b sa cap ll := by
  obtain ⟨h1, h2⟩ := h
  refine ⟨h1, ?_⟩
  rcases h2 with h2 | ⟨x, c, cur, h2, h3, h4, h5⟩
  · exact .inl h2
  · exact .inr ⟨x, c, cur, h2, h3, (e.block x (size_of_heap h4) (by omega)).trans h4, h5⟩
theorem RowV.mid {lo hi base : Nat} {w w' : World} (h : Mid lo hi w w') {sa : Option Addr} {cap : Nat} {ll : List Rv} (r : RowV base w sa cap ll) (hb : hi ≤ base) : RowV base w' sa cap ll := by
  obtain ⟨h1, h2⟩ := r
  refine ⟨h1, ?_⟩
  rcases h2 with h2 | ⟨g, c, cur, h2, h3, h4, h5⟩
  · exact .inl h2
  · exact .inr ⟨g, c, cur, h2, h3, (h.block g (size_of_heap h4) (.inr (by omega))).trans h4, h5⟩
theorem RowV.storeFlat {base : Nat} {w : World} {b cap j : Nat} {ll l2 : List Rv} {v : Int} (h : RowV base w (some ⟨b, 0, none⟩) cap ll) (hl : l2.length = ll.length) (he : (flatR ll).set j v = flatR l2) : RowV base (w.setCell ⟨b, j, none⟩ (.int .i64 v)) (some ⟨b, 0, none⟩) cap l2 := by
  have := (World.ownsRow.stored h.own j (.int .i64 v)).1
  rw [← List.map_set, he] at this
  unfold RowV; rw [hl]; exact this
theorem RowV.storeC {base : Nat} {w : World} {b cap : Nat} {ll : List Rv} (h : RowV base w (some ⟨b, 0, none⟩) cap ll) {i : Nat} (hi : i < ll.length) (x : Int) : RowV base (w.setCell ⟨b, i * 3, none⟩ (.int .i64 x)) (some ⟨b, 0, none⟩) cap (ll.set i ⟨x, (ll.getD i Rv.z).v, (ll.getD i Rv.z).s⟩) :=
  h.storeFlat (by simp) (flatR_setc ll i x hi)
theorem RowV.storeV {base : Nat} {w : World} {b cap : Nat} {ll : List Rv} (h : RowV base w (some ⟨b, 0, none⟩) cap ll) {i : Nat} (hi : i < ll.length) (x : Int) : RowV base (w.setCell ⟨b, i * 3 + 1, none⟩ (.int .i64 x)) (some ⟨b, 0, none⟩) cap (ll.set i ⟨(ll.getD i Rv.z).c, x, (ll.getD i Rv.z).s⟩) :=
  h.storeFlat (by simp) (flatR_setv ll i x hi)
theorem RowV.storeS {base : Nat} {w : World} {b cap : Nat} {ll : List Rv} (h : RowV base w (some ⟨b, 0, none⟩) cap ll) {i : Nat} (hi : i < ll.length) (x : Int) : RowV base (w.setCell ⟨b, i * 3 + 2, none⟩ (.int .i64 x)) (some ⟨b, 0, none⟩) cap (ll.set i ⟨(ll.getD i Rv.z).c, (ll.getD i Rv.z).v, x⟩) :=
  h.storeFlat (by simp) (flatR_sets ll i x hi)
/-- an append of one share, which was laid in a block of its own just before, to a list of the call's own -/
theorem append_rv {ops : Array Oper} {rest : List Oper} {o : Oper} {a : Act} {Q : Exit → Act → World → Prop} (hgd : o.guard = none) (s x : Operand)
    (ho : o.op = .call { callee := .builtin .append, args := #[s, x], argTypes := #[23, 23] }) (base : Nat) (w1 : World) (sa : Option Addr) (cap n g0 : Nat) (ll : List Rv) (v : Rv) (T : TypeId)
    (hs : a.eval s = .slice sa n cap) (hx : a.eval x = .slice (some ⟨g0, 0, none⟩) 1 1) (hn : ll.length = n) (X : Box w1 g0 #[.int .i64 v.c, .int .i64 v.v, .int .i64 v.s] T) (R : RowV base w1 sa cap ll) (hl : n ≤ 2000000) (hb : base ≤ w1.heap.size)
    (h : ∀ g cap' w', RowV base w' (some ⟨g, 0, none⟩) cap' (ll ++ [v]) → Below base w1 w' → (sa = some ⟨g, 0, none⟩ ∨ w1.heap.size ≤ g) → (∀ k, k < w1.heap.size → sa ≠ some ⟨k, 0, none⟩ → w'.heap[k]? = w1.heap[k]?) → wpList Try.prog ops Q rest (a.put o.dst (.slice (some ⟨g, 0, none⟩) (n + 1) cap')) w') :
    wpList Try.prog ops Q (o :: rest) a w1 := by
  subst hn
  obtain ⟨i0, hi, hz0, hz1, hz2⟩ := info_parts Try.infoRv
  refine wpList_append_own_at _ hgd s x 23 ho base 31 i0 _ 3 24 Try.underlying23 hi hz0 hz1 hz2 rfl (by decide) _ _ _ hs R.own ⟨g0, 0, none⟩ 1 1 [.int .i64 v.c, .int .i64 v.v, .int .i64 v.s] hx rfl (World.news_of_block X) (by simp [Value.oneCell']) (by unfold maxLen; omega) (by omega) hb ?_
  intro v' w2 hown hgrow hnil hat
  obtain ⟨g, cap', rfl⟩ := ownsRow_form hown (by omega)
  have hR : RowV base w2 (some ⟨g, 0, none⟩) cap' (ll ++ [v]) := by
    show w2.ownsRow base 31 3 (.slice (some ⟨g, 0, none⟩) (ll ++ [v]).length cap') (ll ++ [v]).length ((flatR (ll ++ [v])).map (Value.int .i64))
    rw [flatR_append, List.map_append, List.length_append]; exact hown
  have hown2 : ∀ k, (Value.slice sa ll.length cap).ownBlock = some k → sa = some ⟨k, 0, none⟩ := by
    intro k hk
    rcases R.2 with ⟨h2, _⟩ | ⟨b, c, cur, h2, h3, h4, h5⟩
    · simp only [Value.slice.injEq] at h2; rw [h2.1] at hk; simp [Value.ownBlock] at hk
    · simp only [Value.slice.injEq] at h2; rw [h2.1] at hk ⊢; simp [Value.ownBlock] at hk; rw [hk]
  refine h g cap' w2 hR ((Below.refl _ _).grown hgrow hb fun k hk => (World.ownsRow.lt R.own k hk).1) ?_ ?_
  · rcases hat with e | e
    · left
      exact hown2 g (by rw [← e]; rfl)
    · right
      have : g = w1.heap.size := by simpa [Value.ownBlock] using e
      omega
  · intro k hk hne
    exact hgrow.block k hk (fun e => hne (hown2 k e.symm))
/-- an append of shares in memory to a list of the call's own -/
theorem append_rvs {ops : Array Oper} {rest : List Oper} {o : Oper} {a : Act} {Q : Exit → Act → World → Prop} (hgd : o.guard = none) (s x : Operand)
    (ho : o.op = .call { callee := .builtin .append, args := #[s, x], argTypes := #[23, 23] }) (base : Nat) (w1 : World) (sa sx : Option Addr) (n m cap cx : Nat) (l1 l : List Rv)
    (hs : a.eval s = .slice sa n cap) (hx : a.eval x = .slice sx m cx) (hn : l1.length = n) (hm : l.length = m) (R : RowV base w1 sa cap l1) (hl1 : n ≤ 1000000) (hl : m ≤ 1000000) (hb : base ≤ w1.heap.size)
    (hc : Rst w1 sx l)
    (h : ∀ sg cap' w', RowV base w' sg cap' (l1 ++ l) → Below base w1 w' → wpList Try.prog ops Q rest (a.put o.dst (.slice sg (n + m) cap')) w') :
    wpList Try.prog ops Q (o :: rest) a w1 := by
  subst hn hm
  obtain ⟨i0, hi, hz0, hz1, hz2⟩ := info_parts Try.infoRv
  by_cases h0 : 0 < l.length
  · obtain ⟨g, off, rfl, hg, hS⟩ := hc.spot h0
    refine wpList_append_own _ hgd s x 23 ho base 31 i0 _ 3 24 Try.underlying23 hi hz0 hz1 hz2 rfl (by decide) _ _ _ hs R.own ⟨g, off, none⟩ l.length cx ((flatR l).map (Value.int .i64)) hx (by rw [List.length_map, flatR_len]) ?_ ?_ (by unfold maxLen; omega) (by omega) hb ?_
    · intro j u hj
      rw [List.getElem?_map] at hj
      have hfl := flatR_len l
      by_cases hjl : j < (flatR l).length
      · rw [add_addr]
        have hi2 : j / 3 < l.length := by omega
        obtain ⟨g2, off2, e, _, c0, c1, c2⟩ := hS.at hi2
        cases e
        have hf := flatR_at l (j / 3)
        rw [List.getElem?_eq_getElem hjl] at hj
        simp at hj
        subst hj
        have e2 : (flatR l).getD j 0 = (flatR l)[j] := by rw [List.getD_eq_getElem?_getD, List.getElem?_eq_getElem hjl]; rfl
        rw [← e2]
        rcases (show j % 3 = 0 ∨ j % 3 = 1 ∨ j % 3 = 2 by omega) with hm | hm | hm
        · rw [show j = j / 3 * 3 by omega, hf.1, ← c0]
        · rw [show off + j = off + j / 3 * 3 + 1 by omega, c1, ← hf.2.1, show j / 3 * 3 + 1 = j by omega]
        · rw [show off + j = off + j / 3 * 3 + 2 by omega, c2, ← hf.2.2, show j / 3 * 3 + 2 = j by omega]
      · rw [List.getElem?_eq_none (by omega)] at hj; simp at hj
    · intro u hu
      obtain ⟨x, _, rfl⟩ := List.mem_map.1 hu
      rfl
    · intro v' w2 hown hgrow hnil
      obtain ⟨g', cap', rfl⟩ := ownsRow_form hown (by omega)
      refine h (some ⟨g', 0, none⟩) cap' w2 ?_ ((Below.refl _ _).grown hgrow hb fun k hk => (World.ownsRow.lt R.own k hk).1)
      show w2.ownsRow base 31 3 (.slice (some ⟨g', 0, none⟩) (l1 ++ l).length cap') (l1 ++ l).length ((flatR (l1 ++ l)).map (Value.int .i64))
      rw [flatR_append, List.map_append, List.length_append]; exact hown
  · have e : l = [] := List.length_eq_zero_iff.1 (by omega)
    subst e
    refine wpList_plain hgd fun K hK' => ?_
    have hsrc : Src Try.prog i0.size 23 (.slice sx 0 cx) 0 [] w1 := by
      cases sx with
      | none => exact Src.ofNil w1 Try.underlying23 cx
      | some ad => exact Src.ofSlice w1 Try.underlying23 ad 0 cx [] (by simp) (fun j u hj => by simp at hj) (by simp)
    have hrun := run_append_nothing (P := Try.prog) w1 23 23 o.type 31 i0 Try.underlying23 hi sa l1.length cap R.cap (.slice sx 0 cx) hsrc
    unfold Oper.wp
    simp [execOp, ho, resolve, invoke, builtin, hs, hx, hrun, Result.andThen]
    exact hK' _ _ (h sa cap w1 (by rw [List.append_nil]; exact R) (Below.refl _ _))
/-- an append of one share at a step of a drawn region -/
theorem step_append_rv {ops : Array Oper} {o : Oper} {a : Act} {K : Act → World → Prop} {Q : Exit → Act → World → Prop} {E : Prop} {s x : Operand} (hgd : o.guard = none)
    (ho : o.op = .call { callee := .builtin .append, args := #[s, x], argTypes := #[23, 23] }) {base : Nat} {w1 : World} {sa : Option Addr} {cap n : Nat} {ll : List Rv} {v : Rv} {T : TypeId} {g0 : Nat}
    (hs : a.eval s = .slice sa n cap) (hx : a.eval x = .slice (some ⟨g0, 0, none⟩) 1 1) (hn : ll.length = n) (X : Box w1 g0 #[.int .i64 v.c, .int .i64 v.v, .int .i64 v.s] T) (R : RowV base w1 sa cap ll) (hl : n ≤ 2000000) (hb : base ≤ w1.heap.size)
    (h : ∀ g cap' w', RowV base w' (some ⟨g, 0, none⟩) cap' (ll ++ [v]) → Below base w1 w' → K (a.put o.dst (.slice (some ⟨g, 0, none⟩) (n + 1) cap')) w') :
    if Region.wanted o (yielded ops a.tmps) = true then Oper.wp Try.prog o a w1 K Q else E := by
  subst hn
  obtain ⟨i0, hi, hz0, hz1, hz2⟩ := info_parts Try.infoRv
  refine step_append_lies w1 hgd s x 23 ho base 31 i0 _ 3 24 Try.underlying23 hi hz0 hz1 hz2 rfl (by decide) _ _ _ hs R.own ⟨g0, 0, none⟩ 1 1 [.int .i64 v.c, .int .i64 v.v, .int .i64 v.s] hx rfl (World.news_of_block X) (by simp [Value.oneCell']) (by omega) (by unfold maxLen; omega) (by omega) hb _ rfl ?_
  intro g cap' w2 hown hgrow hat hlt
  refine h g cap' w2 ?_ ((Below.refl _ _).grown hgrow hb fun k hk => (World.ownsRow.lt R.own k hk).1)
  show w2.ownsRow base 31 3 (.slice (some ⟨g, 0, none⟩) (ll ++ [v]).length cap') (ll ++ [v]).length ((flatR (ll ++ [v])).map (Value.int .i64))
  rw [flatR_append, List.map_append, List.length_append]; exact hown
end Go.Proofs.Ytgmhodmgbhpdaad
