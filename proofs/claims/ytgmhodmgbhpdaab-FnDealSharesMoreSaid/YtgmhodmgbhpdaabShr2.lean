/- Chapter 4: lists of shares: where they lie; lists of shares of the call's own, and appends to them. -/
import Derived.Test.YtgmhodmgbhpdaabShr1
import Derived.Test.YtgmhodmgbhpdaabAppI
namespace Go.Proofs.Ytgmhodmgbhpdaab
open Go.ChangeShapes Go.WideShapes Go.ChangeAt Go.RowKit Go.Joins Go.Sort
set_option linter.unusedVariables false

/-- a list's shares, where they can be read -/
def Sst (w : World) (sa : Option Addr) (ll : List Sh) : Prop :=
  ll = [] ∨ ∃ g off, sa = some ⟨g, off, none⟩ ∧ g < w.heap.size ∧ ∀ i, i < ll.length → w.cell? ⟨g, off + i * 2, none⟩ = some (.int .i64 (ll.getD i Sh.z).x) ∧ w.cell? ⟨g, off + i * 2 + 1, none⟩ = some (.int .i64 (ll.getD i Sh.z).y)
theorem Sst.ext {w w' : World} {sa : Option Addr} {ll : List Sh} (h : Sst w sa ll) (e : Ext w w') : Sst w' sa ll := by
  rcases h with h | ⟨g, off, h1, h2, h3⟩
  · exact .inl h
  · refine .inr ⟨g, off, h1, e.lt h2, fun i hi => ?_⟩
    obtain ⟨a, b⟩ := h3 i hi
    exact ⟨(e.cell h2).trans a, (e.cell h2).trans b⟩
theorem Sst.at {w : World} {sa : Option Addr} {ll : List Sh} (h : Sst w sa ll) {i : Nat} (hi : i < ll.length) :
    ∃ g off, sa = some ⟨g, off, none⟩ ∧ g < w.heap.size ∧ w.cell? ⟨g, off + i * 2, none⟩ = some (.int .i64 (ll.getD i Sh.z).x) ∧ w.cell? ⟨g, off + i * 2 + 1, none⟩ = some (.int .i64 (ll.getD i Sh.z).y) := by
  rcases h with h | ⟨g, off, h1, h2, h3⟩
  · subst h; simp at hi
  · obtain ⟨a, b⟩ := h3 i hi
    exact ⟨g, off, h1, h2, a, b⟩
theorem getD_takeS (ll : List Sh) (k i : Nat) (h : i < k) : (ll.take k).getD i Sh.z = ll.getD i Sh.z := by
  rw [List.getD_eq_getElem?_getD, List.getD_eq_getElem?_getD, List.getElem?_take_of_lt h]
theorem getD_dropS (ll : List Sh) (k i : Nat) : (ll.drop k).getD i Sh.z = ll.getD (k + i) Sh.z := by
  rw [List.getD_eq_getElem?_getD, List.getD_eq_getElem?_getD, List.getElem?_drop]
theorem Sst.take {w : World} {sa : Option Addr} {ll : List Sh} (h : Sst w sa ll) (k : Nat) : Sst w sa (ll.take k) := by
  rcases h with h | ⟨g, off, h1, h2, h3⟩
  · subst h; left; simp
  · refine .inr ⟨g, off, h1, h2, fun i hi => ?_⟩
    rw [List.length_take] at hi
    rw [getD_takeS ll k i (by omega)]; exact h3 i (by omega)
theorem Sst.drop {w : World} {g off : Nat} {ll : List Sh} (h : Sst w (some ⟨g, off, none⟩) ll) (k : Nat) : Sst w (some ⟨g, off + k * 2, none⟩) (ll.drop k) := by
  rcases h with h | ⟨g2, off2, h1, h2, h3⟩
  · subst h; exact .inl (by simp)
  · cases h1
    refine .inr ⟨_, _, rfl, h2, fun i hi => ?_⟩
    rw [List.length_drop] at hi
    have := h3 (k + i) (by omega)
    rw [show off + k * 2 + i * 2 = off + (k + i) * 2 by omega, getD_dropS]
    exact this
theorem Sst.spot {w : World} {sa : Option Addr} {ll : List Sh} (h : Sst w sa ll) (h0 : 0 < ll.length) : ∃ g off, sa = some ⟨g, off, none⟩ ∧ g < w.heap.size ∧ Sst w (some ⟨g, off, none⟩) ll := by
  rcases h with h | ⟨g, off, h1, h2, h3⟩
  · subst h; simp at h0
  · exact ⟨g, off, h1, h2, .inr ⟨g, off, rfl, h2, h3⟩⟩

/-- the numbers of shares, one after the other -/
def flat (ll : List Sh) : List Int := ll.flatMap fun s => [s.x, s.y]
theorem flat_nil : flat [] = [] := rfl
theorem flat_cons (s : Sh) (ll : List Sh) : flat (s :: ll) = s.x :: s.y :: flat ll := rfl
theorem flat_append (a b : List Sh) : flat (a ++ b) = flat a ++ flat b := by simp [flat]
theorem flat_len (ll : List Sh) : (flat ll).length = ll.length * 2 := by
  induction ll with
  | nil => rfl
  | cons s t ih => rw [flat_cons, List.length_cons, List.length_cons, ih, List.length_cons]; omega
theorem flat_at (ll : List Sh) (i : Nat) : (flat ll).getD (i * 2) 0 = (ll.getD i Sh.z).x ∧ (flat ll).getD (i * 2 + 1) 0 = (ll.getD i Sh.z).y := by
  induction ll generalizing i with
  | nil => simp [flat, Sh.z]
  | cons s t ih =>
    cases i with
    | zero => exact ⟨rfl, rfl⟩
    | succ i =>
      have := ih i
      rw [flat_cons, show (i + 1) * 2 = i * 2 + 1 + 1 by omega]
      exact this
theorem flat_setX (ll : List Sh) (i : Nat) (v : Int) (h : i < ll.length) : (flat ll).set (i * 2) v = flat (ll.set i ⟨v, (ll.getD i Sh.z).y⟩) := by
  induction ll generalizing i with
  | nil => simp at h
  | cons s t ih =>
    cases i with
    | zero => rfl
    | succ i =>
      rw [flat_cons, show (i + 1) * 2 = i * 2 + 1 + 1 by omega]
      show s.x :: s.y :: (flat t).set (i * 2) v = _
      rw [ih i (by simpa using h)]; rfl
theorem flat_setY (ll : List Sh) (i : Nat) (v : Int) (h : i < ll.length) : (flat ll).set (i * 2 + 1) v = flat (ll.set i ⟨(ll.getD i Sh.z).x, v⟩) := by
  induction ll generalizing i with
  | nil => simp at h
  | cons s t ih =>
    cases i with
    | zero => rfl
    | succ i =>
      rw [flat_cons, show (i + 1) * 2 + 1 = i * 2 + 1 + 1 + 1 by omega]
      show s.x :: s.y :: (flat t).set (i * 2 + 1) v = _
      rw [ih i (by simpa using h)]; rfl

theorem Try.infoSh : (Try.prog.info? 40).map (fun i => (i.zero, i.size, i.bytes)) = some (some (.agg #[.int .i64 0, .int .i64 0]), 2, 16) := by kernel_rfl
/-- shares that a call has made: they lie in memory from block 'base' on -/
def RowS (base : Nat) (w : World) (sa : Option Addr) (cap : Nat) (ll : List Sh) : Prop := w.ownsRow base 40 2 (.slice sa ll.length cap) ll.length ((flat ll).map (Value.int .i64))
theorem RowS.own {base : Nat} {w : World} {sa : Option Addr} {cap : Nat} {ll : List Sh} (h : RowS base w sa cap ll) : w.ownsRow base 40 2 (.slice sa ll.length cap) ll.length ((flat ll).map (Value.int .i64)) := h
theorem RowS.form {base : Nat} {w : World} {sa : Option Addr} {cap : Nat} {ll : List Sh} (h : RowS base w sa cap ll) (h0 : 0 < ll.length) :
    ∃ g cur, sa = some ⟨g, 0, none⟩ ∧ base ≤ g ∧ w.heap[g]? = some (.cells cur 40 (0, 0)) ∧ ∀ j, j < (flat ll).length → cur[j]? = some (.int .i64 ((flat ll).getD j 0)) := by
  obtain ⟨h1, h2⟩ := h
  rcases h2 with ⟨h2, h3⟩ | ⟨g, c, cur, h2, h3, h4, h5, h6, h7, h8⟩
  · omega
  · simp only [Value.slice.injEq] at h2
    obtain ⟨rfl, _, rfl⟩ := h2
    refine ⟨g, cur, rfl, h3, h4, fun j hj => ?_⟩
    have hj2 := hj
    rw [flat_len] at hj2
    have e : (cur.toList.take (ll.length * 2))[j]? = ((flat ll).map (Value.int .i64))[j]? := by rw [h8]
    rw [List.getElem?_take_of_lt (by omega), List.getElem?_map, List.getElem?_eq_getElem hj] at e
    rw [List.getD_eq_getElem?_getD, List.getElem?_eq_getElem hj]
    simpa using e
theorem RowS.spot {base : Nat} {w : World} {sa : Option Addr} {cap : Nat} {ll : List Sh} (h : RowS base w sa cap ll) (h0 : 0 < ll.length) :
    ∃ b, sa = some ⟨b, 0, none⟩ ∧ base ≤ b ∧ b < w.heap.size ∧ (∀ i, w.frozen? ⟨b, i, none⟩ = false) ∧ ∀ i, i < ll.length → w.cell? ⟨b, i * 2, none⟩ = some (.int .i64 (ll.getD i Sh.z).x) ∧ w.cell? ⟨b, i * 2 + 1, none⟩ = some (.int .i64 (ll.getD i Sh.z).y) := by
  obtain ⟨g, cur, h1, h2, h3, h4⟩ := h.form h0
  refine ⟨g, h1, h2, size_of_heap h3, fun i => unfrozen_of_block h3 i, fun i hi => ?_⟩
  have hf := flat_at ll i
  have hl := flat_len ll
  rw [cell_of_block h3, cell_of_block h3, h4 _ (by omega), h4 _ (by omega), hf.1, hf.2]
  exact ⟨rfl, rfl⟩
theorem RowS.sst {base : Nat} {w : World} {sa : Option Addr} {cap : Nat} {ll : List Sh} (h : RowS base w sa cap ll) : Sst w sa ll := by
  by_cases h0 : 0 < ll.length
  · obtain ⟨b, h1, h2, h3, h4, h5⟩ := h.spot h0
    refine .inr ⟨b, 0, h1, h3, fun i hi => ?_⟩
    rw [Nat.zero_add]; exact h5 i hi
  · exact .inl (List.length_eq_zero_iff.1 (by omega))
theorem RowS.keep {base : Nat} {w w' : World} {sa : Option Addr} {cap : Nat} {ll : List Sh} (h : RowS base w sa cap ll) (hb : Below w.heap.size w w') : RowS base w' sa cap ll := by
  obtain ⟨h1, h2⟩ := h
  refine ⟨h1, ?_⟩
  rcases h2 with h2 | ⟨g, c, cur, h2, h3, h4, h5⟩
  · exact .inl h2
  · exact .inr ⟨g, c, cur, h2, h3, (hb.block g (size_of_heap h4)).trans h4, h5⟩
theorem RowS.ext {base : Nat} {w w' : World} {sa : Option Addr} {cap : Nat} {ll : List Sh} (h : RowS base w sa cap ll) (e : Ext w w') : RowS base w' sa cap ll := h.keep e
theorem RowS.le {base base' : Nat} {w : World} {sa : Option Addr} {cap : Nat} {ll : List Sh} (h : RowS base w sa cap ll) (hb : base' ≤ base) : RowS base' w sa cap ll := ownsRow_le h hb
theorem RowS.nil (base : Nat) (w : World) : RowS base w none 0 [] := World.ownsRow_nil _ _ _ _
theorem RowS.made (base : Nat) (w : World) (hb : base ≤ w.heap.size) : RowS base (w.alloc (.cells #[] 40)) (some ⟨w.heap.size, 0, none⟩) 0 [] :=
  World.ownsRow_made w #[] 0 hb (by unfold maxLen; omega) (by simp)
theorem RowS.cap {base : Nat} {w : World} {sa : Option Addr} {cap : Nat} {ll : List Sh} (r : RowS base w sa cap ll) : ll.length ≤ cap := by
  obtain ⟨h1, h2⟩ := r
  rcases h2 with ⟨h2, h3⟩ | ⟨g, c, cur, h2, h3, h4, h5, _⟩
  · omega
  · simp only [Value.slice.injEq] at h2; omega
theorem RowS.block_lt {base : Nat} {w : World} {sa : Option Addr} {cap : Nat} {ll : List Sh} (r : RowS base w sa cap ll) {a : Addr} (h : sa = some a) : base ≤ a.block ∧ a.block < w.heap.size := by
  obtain ⟨h1, h2⟩ := r
  rcases h2 with ⟨h2, _⟩ | ⟨b, c, cur, h2, h3, h4, h5⟩
  · simp only [Value.slice.injEq] at h2; rw [h] at h2; cases h2.1
  · simp only [Value.slice.injEq] at h2; rw [h] at h2
    have := h2.1; cases this
    exact ⟨h3, size_of_heap h4⟩
theorem RowS.but {base g : Nat} {a b : World} {sa : Option Addr} {cap : Nat} {ll : List Sh} (h : RowS base a sa cap ll) (e : But g a b) (hg : g < base) : RowS base b sa cap ll := by
  obtain ⟨h1, h2⟩ := h
  refine ⟨h1, ?_⟩
  rcases h2 with h2 | ⟨x, c, cur, h2, h3, h4, h5⟩
  · exact .inl h2
  · exact .inr ⟨x, c, cur, h2, h3, (e.block x (size_of_heap h4) (by omega)).trans h4, h5⟩
theorem RowS.mid {lo hi base : Nat} {w w' : World} (h : Mid lo hi w w') {sa : Option Addr} {cap : Nat} {ll : List Sh} (r : RowS base w sa cap ll) (hb : hi ≤ base) : RowS base w' sa cap ll := by
  obtain ⟨h1, h2⟩ := r
  refine ⟨h1, ?_⟩
  rcases h2 with h2 | ⟨g, c, cur, h2, h3, h4, h5⟩
  · exact .inl h2
  · exact .inr ⟨g, c, cur, h2, h3, (h.block g (size_of_heap h4) (.inr (by omega))).trans h4, h5⟩
theorem RowS.storeFlat {base : Nat} {w : World} {b cap j : Nat} {ll l2 : List Sh} {v : Int} (h : RowS base w (some ⟨b, 0, none⟩) cap ll) (hl : l2.length = ll.length) (he : (flat ll).set j v = flat l2) : RowS base (w.setCell ⟨b, j, none⟩ (.int .i64 v)) (some ⟨b, 0, none⟩) cap l2 := by
  have := (World.ownsRow.stored h.own j (.int .i64 v)).1
  rw [← List.map_set, he] at this
  unfold RowS; rw [hl]; exact this
/-- stores into a list of the call's own -/
theorem RowS.storeX {base : Nat} {w : World} {b cap : Nat} {ll : List Sh} (h : RowS base w (some ⟨b, 0, none⟩) cap ll) {i : Nat} (hi : i < ll.length) (v : Int) : RowS base (w.setCell ⟨b, i * 2, none⟩ (.int .i64 v)) (some ⟨b, 0, none⟩) cap (ll.set i ⟨v, (ll.getD i Sh.z).y⟩) :=
  h.storeFlat (by simp) (flat_setX ll i v hi)
theorem RowS.storeY {base : Nat} {w : World} {b cap : Nat} {ll : List Sh} (h : RowS base w (some ⟨b, 0, none⟩) cap ll) {i : Nat} (hi : i < ll.length) (v : Int) : RowS base (w.setCell ⟨b, i * 2 + 1, none⟩ (.int .i64 v)) (some ⟨b, 0, none⟩) cap (ll.set i ⟨(ll.getD i Sh.z).x, v⟩) :=
  h.storeFlat (by simp) (flat_setY ll i v hi)
theorem RowS.take {base : Nat} {w : World} {sa : Option Addr} {cap : Nat} {ll : List Sh} (h : RowS base w sa cap ll) {k : Nat} (hk : k ≤ ll.length) : RowS base w sa cap (ll.take k) := by
  obtain ⟨h1, h2⟩ := h
  have hl : (ll.take k).length = k := by rw [List.length_take]; omega
  have hfl : flat (ll.take k) = (flat ll).take (k * 2) := by
    have e : flat ll = flat (ll.take k) ++ flat (ll.drop k) := by rw [← flat_append, List.take_append_drop]
    have h3 := flat_len (ll.take k)
    rw [hl] at h3
    have h4 := List.take_left' (l₂ := flat (ll.drop k)) h3
    rw [← e] at h4
    exact h4.symm
  refine ⟨by rw [List.length_map, flat_len], ?_⟩
  rw [hl]
  rcases h2 with ⟨h2, h3⟩ | ⟨x, c, cur, h2, h3, h4, h5, h6, h7, h8⟩
  · left
    have hk0 : k = 0 := by omega
    simp only [Value.slice.injEq] at h2
    obtain ⟨rfl, _, rfl⟩ := h2
    exact ⟨by rw [hk0], hk0⟩
  · right
    simp only [Value.slice.injEq] at h2
    obtain ⟨rfl, _, rfl⟩ := h2
    refine ⟨x, cap, cur, rfl, h3, h4, by omega, h6, h7, ?_⟩
    rw [hfl, List.map_take, ← h8, List.take_take]
    congr 1
    omega
/-- a block that holds a list of shares, whole, number by number -/
def ArrS (w : World) (g : Nat) (ll : List Sh) : Prop := Box w g (ints (flat ll)) 40
theorem ArrS.keep {w w' : World} {g : Nat} {ll : List Sh} (h : ArrS w g ll) (e : Ext w w') : ArrS w' g ll := Box.keep h e
theorem ArrS.row {w : World} {g base : Nat} {ll : List Sh} (h : ArrS w g ll) (hb : base ≤ g) (hl : ll.length ≤ 2000000) : RowS base w (some ⟨g, 0, none⟩) ll.length ll :=
  ⟨by rw [List.length_map, flat_len], .inr ⟨g, ll.length, _, rfl, hb, h, Nat.le_refl _, by unfold maxLen; omega, by simp [ints, flat_len], by
    have := flat_len ll
    simp only [ints]; rw [List.take_of_length_le (by simp; omega)]⟩⟩
theorem ArrS.sst {w : World} {g : Nat} {ll : List Sh} (h : ArrS w g ll) (hl : ll.length ≤ 2000000) : Sst w (some ⟨g, 0, none⟩) ll := (h.row (Nat.le_refl g) hl).sst
theorem ArrS.free {w : World} {g : Nat} {ll : List Sh} (h : ArrS w g ll) (j : Nat) : w.frozen? ⟨g, j, none⟩ = false := unfrozen_of_block h j
theorem ArrS.cell {w : World} {g : Nat} {ll : List Sh} (h : ArrS w g ll) {i : Nat} (hi : i < ll.length) : w.cell? ⟨g, i * 2, none⟩ = some (.int .i64 (ll.getD i Sh.z).x) ∧ w.cell? ⟨g, i * 2 + 1, none⟩ = some (.int .i64 (ll.getD i Sh.z).y) := by
  have hf := flat_at ll i
  have hl := flat_len ll
  have key : ∀ j, j < (flat ll).length → w.cell? ⟨g, j, none⟩ = some (.int .i64 ((flat ll).getD j 0)) := fun j hj => by
    rw [cell_of_block h j]; simp [ints, hj, List.getD_eq_getElem?_getD]
  rw [key _ (by omega), key _ (by omega), hf.1, hf.2]
  exact ⟨rfl, rfl⟩
theorem ArrS.storeXY {w : World} {g : Nat} {ll : List Sh} (h : ArrS w g ll) {i : Nat} (hi : i < ll.length) (x y : Int) : ArrS ((w.setCell ⟨g, i * 2, none⟩ (.int .i64 x)).setCell ⟨g, i * 2 + 1, none⟩ (.int .i64 y)) g (ll.set i ⟨x, y⟩) := by
  have h1 := Box.set h (i * 2) (.int .i64 x)
  have h2 := Box.set h1 (i * 2 + 1) (.int .i64 y)
  have e1 := flat_setX ll i x hi
  have e2 := flat_setY (ll.set i ⟨x, (ll.getD i Sh.z).y⟩) i y (by simpa using hi)
  have e3 : ((ll.set i ⟨x, (ll.getD i Sh.z).y⟩).getD i Sh.z).x = x := by rw [List.getD_eq_getElem?_getD, List.getElem?_set_self hi]; rfl
  rw [e3, List.set_set] at e2
  unfold ArrS ints
  rw [← e2, ← e1, List.map_set, List.map_set]
  simpa [ints] using h2

def zeroS (n : Nat) : List Sh := List.replicate n Sh.z
theorem zeroS_len (n : Nat) : (zeroS n).length = n := List.length_replicate
theorem flat_zeroS (n : Nat) : flat (zeroS n) = zeros (n * 2) := by
  induction n with
  | zero => rfl
  | succ n ih =>
    rw [show (n + 1) * 2 = n * 2 + 1 + 1 by omega]
    show (0 : Int) :: 0 :: flat (zeroS n) = 0 :: 0 :: zeros (n * 2)
    rw [ih]
theorem made_shs (n : Nat) : madeCells (Value.agg #[.int .i64 0, .int .i64 0]).cells (n * 2) = ints (flat (zeroS n)) := by
  rw [flat_zeroS]
  apply Array.ext
  · simp [madeCells, ints, zeros]
  · intro i h1 h2
    have h3 : i % 2 = 0 ∨ i % 2 = 1 := by omega
    rcases h3 with h | h <;> simp [madeCells, Value.cells, ints, zeros, h]
theorem run_makeShs (n : Nat) (hn : n ≤ 2000000) (w : World) : (Instr.makeSlice 23 (.int .i64 (n : Int)) (.int .i64 (n : Int))).run Try.prog w =
    .ok (.slice (some ⟨w.heap.size, 0, none⟩) n n) (w.alloc (.cells (ints (flat (zeroS n))) 40)) := by
  obtain ⟨i0, hi, hz0, hz1, hz2⟩ := info_parts Try.infoSh
  have hr := run_make (P := Try.prog) w 23 40 i0 _ Try.underlying23 hi hz0 .i64 .i64 n n (by omega) (Int.le_refl _) (by rw [hz2]; omega) (by omega)
  rw [hz1, Int.toNat_natCast, made_shs] at hr
  exact hr
theorem ArrS.new (w : World) (ll : List Sh) : ArrS (w.alloc (.cells (ints (flat ll)) 40)) w.heap.size ll := Box.new _ _ _

/-- what a call that makes a list of shares answers -/
def RetS (ll : List Sh) (w : World) (e : Ending) (w' : World) : Prop :=
  ∃ sa cap, e = .returned (.slice sa ll.length cap) ∧ RowS w.heap.size w' sa cap ll ∧ Ext w w'
theorem RetS.of {ll o : List Sh} {w w' : World} {sa : Option Addr} {cap base : Nat} (h : ll = o) (hr : RowS (w.heap.size + base) w' sa cap o) (hb : Ext w w') : RetS ll w (.returned (.slice sa o.length cap)) w' := by
  subst h; exact ⟨sa, cap, rfl, hr.le (by omega), hb⟩

/-- an append of one share, which was laid in a block of its own just before, to a list of the call's own -/
theorem append_share {ops : Array Oper} {rest : List Oper} {o : Oper} {a : Act} {Q : Exit → Act → World → Prop} (hgd : o.guard = none) (s x : Operand)
    (ho : o.op = .call { callee := .builtin .append, args := #[s, x], argTypes := #[23, 23] }) (base : Nat) (w1 : World) (sa : Option Addr) (cap n g0 : Nat) (ll : List Sh) (v : Sh) (T : TypeId)
    (hs : a.eval s = .slice sa n cap) (hx : a.eval x = .slice (some ⟨g0, 0, none⟩) 1 1) (hn : ll.length = n) (X : Box w1 g0 #[.int .i64 v.x, .int .i64 v.y] T) (R : RowS base w1 sa cap ll) (hl : n ≤ 2000000) (hb : base ≤ w1.heap.size)
    (h : ∀ g cap' w', RowS base w' (some ⟨g, 0, none⟩) cap' (ll ++ [v]) → Below base w1 w' → (sa = some ⟨g, 0, none⟩ ∨ w1.heap.size ≤ g) → (∀ k, k < w1.heap.size → sa ≠ some ⟨k, 0, none⟩ → w'.heap[k]? = w1.heap[k]?) → wpList Try.prog ops Q rest (a.put o.dst (.slice (some ⟨g, 0, none⟩) (n + 1) cap')) w') :
    wpList Try.prog ops Q (o :: rest) a w1 := by
  subst hn
  obtain ⟨i0, hi, hz0, hz1, hz2⟩ := info_parts Try.infoSh
  refine wpList_append_own_at _ hgd s x 23 ho base 40 i0 _ 2 16 Try.underlying23 hi hz0 hz1 hz2 rfl (by decide) _ _ _ hs R.own ⟨g0, 0, none⟩ 1 1 [.int .i64 v.x, .int .i64 v.y] hx rfl (World.news_of_block X) (by simp [Value.oneCell']) (by unfold maxLen; omega) (by omega) hb ?_
  intro v' w2 hown hgrow hnil hat
  obtain ⟨g, cap', rfl⟩ := ownsRow_form hown (by omega)
  have hR : RowS base w2 (some ⟨g, 0, none⟩) cap' (ll ++ [v]) := by
    show w2.ownsRow base 40 2 (.slice (some ⟨g, 0, none⟩) (ll ++ [v]).length cap') (ll ++ [v]).length ((flat (ll ++ [v])).map (Value.int .i64))
    rw [flat_append, List.map_append, List.length_append]; exact hown
  have hown2 : ∀ k, (Value.slice sa ll.length cap).ownBlock = some k → sa = some ⟨k, 0, none⟩ := by
    intro k hk
    rcases R.2 with ⟨h2, _⟩ | ⟨b, c, cur, h2, h3, h4, h5⟩
    · simp only [Value.slice.injEq] at h2; rw [h2.1] at hk; simp [Value.ownBlock] at hk
    · simp only [Value.slice.injEq] at h2; rw [h2.1] at hk ⊢; simp [Value.ownBlock] at hk; rw [hk]
  refine h g cap' w2 hR ((Below.refl _ _).grown hgrow hb fun k hk => (World.ownsRow.lt R.own k hk).1) ?_ ?_
  · rcases hat with e | e
    · left
      exact hown2 g (by rw [← e]; rfl)
    · right
      have : g = w1.heap.size := by simpa [Value.ownBlock] using e
      omega
  · intro k hk hne
    exact hgrow.block k hk (fun e => hne (hown2 k e.symm))
/-- an append of shares in memory to a list of the call's own -/
theorem append_shares {ops : Array Oper} {rest : List Oper} {o : Oper} {a : Act} {Q : Exit → Act → World → Prop} (hgd : o.guard = none) (s x : Operand)
    (ho : o.op = .call { callee := .builtin .append, args := #[s, x], argTypes := #[23, 23] }) (base : Nat) (w1 : World) (sa sx : Option Addr) (n m cap cx : Nat) (l1 l : List Sh)
    (hs : a.eval s = .slice sa n cap) (hx : a.eval x = .slice sx m cx) (hn : l1.length = n) (hm : l.length = m) (R : RowS base w1 sa cap l1) (hl1 : n ≤ 1000000) (hl : m ≤ 1000000) (hb : base ≤ w1.heap.size)
    (hc : Sst w1 sx l)
    (h : ∀ sg cap' w', RowS base w' sg cap' (l1 ++ l) → Below base w1 w' → wpList Try.prog ops Q rest (a.put o.dst (.slice sg (n + m) cap')) w') :
    wpList Try.prog ops Q (o :: rest) a w1 := by
  subst hn hm
  obtain ⟨i0, hi, hz0, hz1, hz2⟩ := info_parts Try.infoSh
  by_cases h0 : 0 < l.length
  · obtain ⟨g, off, rfl, hg, hS⟩ := hc.spot h0
    refine wpList_append_own _ hgd s x 23 ho base 40 i0 _ 2 16 Try.underlying23 hi hz0 hz1 hz2 rfl (by decide) _ _ _ hs R.own ⟨g, off, none⟩ l.length cx ((flat l).map (Value.int .i64)) hx (by rw [List.length_map, flat_len]) ?_ ?_ (by unfold maxLen; omega) (by omega) hb ?_
    · intro j u hj
      rw [List.getElem?_map] at hj
      have hfl := flat_len l
      by_cases hjl : j < (flat l).length
      · rw [add_addr]
        have hi2 : j / 2 < l.length := by omega
        obtain ⟨g2, off2, e, _, c0, c1⟩ := hS.at hi2
        cases e
        have hf := flat_at l (j / 2)
        rw [List.getElem?_eq_getElem hjl] at hj
        simp at hj
        subst hj
        have e2 : (flat l).getD j 0 = (flat l)[j] := by rw [List.getD_eq_getElem?_getD, List.getElem?_eq_getElem hjl]; rfl
        rw [← e2]
        rcases Nat.mod_two_eq_zero_or_one j with hm | hm
        · rw [show j = j / 2 * 2 by omega, hf.1, ← c0]
        · rw [show off + j = off + j / 2 * 2 + 1 by omega, c1, ← hf.2, show j / 2 * 2 + 1 = j by omega]
      · rw [List.getElem?_eq_none (by omega)] at hj; simp at hj
    · intro u hu
      obtain ⟨x, _, rfl⟩ := List.mem_map.1 hu
      rfl
    · intro v' w2 hown hgrow hnil
      obtain ⟨g', cap', rfl⟩ := ownsRow_form hown (by omega)
      refine h (some ⟨g', 0, none⟩) cap' w2 ?_ ((Below.refl _ _).grown hgrow hb fun k hk => (World.ownsRow.lt R.own k hk).1)
      show w2.ownsRow base 40 2 (.slice (some ⟨g', 0, none⟩) (l1 ++ l).length cap') (l1 ++ l).length ((flat (l1 ++ l)).map (Value.int .i64))
      rw [flat_append, List.map_append, List.length_append]; exact hown
  · have e : l = [] := List.length_eq_zero_iff.1 (by omega)
    subst e
    refine wpList_plain hgd fun K hK' => ?_
    have hsrc : Src Try.prog i0.size 23 (.slice sx 0 cx) 0 [] w1 := by
      cases sx with
      | none => exact Src.ofNil w1 Try.underlying23 cx
      | some ad => exact Src.ofSlice w1 Try.underlying23 ad 0 cx [] (by simp) (fun j u hj => by simp at hj) (by simp)
    have hrun := run_append_nothing (P := Try.prog) w1 23 23 o.type 40 i0 Try.underlying23 hi sa l1.length cap R.cap (.slice sx 0 cx) hsrc
    unfold Oper.wp
    simp [execOp, ho, resolve, invoke, builtin, hs, hx, hrun, Result.andThen]
    exact hK' _ _ (h sa cap w1 (by rw [List.append_nil]; exact R) (Below.refl _ _))
/-- an append of one share at a step of a drawn region -/
theorem step_append_share {ops : Array Oper} {o : Oper} {a : Act} {K : Act → World → Prop} {Q : Exit → Act → World → Prop} {E : Prop} {s x : Operand} (hgd : o.guard = none)
    (ho : o.op = .call { callee := .builtin .append, args := #[s, x], argTypes := #[23, 23] }) {base : Nat} {w1 : World} {sa : Option Addr} {cap n : Nat} {ll : List Sh} {v : Sh} {T : TypeId} {g0 : Nat}
    (hs : a.eval s = .slice sa n cap) (hx : a.eval x = .slice (some ⟨g0, 0, none⟩) 1 1) (hn : ll.length = n) (X : Box w1 g0 #[.int .i64 v.x, .int .i64 v.y] T) (R : RowS base w1 sa cap ll) (hl : n ≤ 2000000) (hb : base ≤ w1.heap.size)
    (h : ∀ g cap' w', RowS base w' (some ⟨g, 0, none⟩) cap' (ll ++ [v]) → Below base w1 w' → K (a.put o.dst (.slice (some ⟨g, 0, none⟩) (n + 1) cap')) w') :
    if Region.wanted o (yielded ops a.tmps) = true then Oper.wp Try.prog o a w1 K Q else E := by
  subst hn
  obtain ⟨i0, hi, hz0, hz1, hz2⟩ := info_parts Try.infoSh
  refine step_append_lies w1 hgd s x 23 ho base 40 i0 _ 2 16 Try.underlying23 hi hz0 hz1 hz2 rfl (by decide) _ _ _ hs R.own ⟨g0, 0, none⟩ 1 1 [.int .i64 v.x, .int .i64 v.y] hx rfl (World.news_of_block X) (by simp [Value.oneCell']) (by omega) (by unfold maxLen; omega) (by omega) hb _ rfl ?_
  intro g cap' w2 hown hgrow hat hlt
  refine h g cap' w2 ?_ ((Below.refl _ _).grown hgrow hb fun k hk => (World.ownsRow.lt R.own k hk).1)
  show w2.ownsRow base 40 2 (.slice (some ⟨g, 0, none⟩) (ll ++ [v]).length cap') (ll ++ [v]).length ((flat (ll ++ [v])).map (Value.int .i64))
  rw [flat_append, List.map_append, List.length_append]; exact hown
end Go.Proofs.Ytgmhodmgbhpdaab
