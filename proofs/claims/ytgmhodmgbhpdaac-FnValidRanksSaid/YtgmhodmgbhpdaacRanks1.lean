/- Lists of lists: where they come in, their size, their copy. -/
import Derived.Test.YtgmhodmgbhpdaacMat
import Derived.Test.YtgmhodmgbhpdaacBodyX
import Derived.Test.YtgmhodmgbhpdaacWins
namespace Go.Proofs.Ytgmhodmgbhpdaac
open Go.ChangeShapes Go.WideShapes Go.ChangeAt Go.RowKit Go.Joins Go.Sort
set_option linter.unusedVariables false

theorem ints_open2 {H : Type} {enc : TypeId × Value → H} {P : Program} {w : World} {base : Nat} {spare : Nat → Bool} {held : Bool} {t e : TypeId} {fuel : Nat} {cs : List Value} {x : DataW H × List MemPlace} (ht : P.underlying t = some (.slice e)) (he : P.underlying e = some (.int .i64)) (hc : P.cellsOf e = 1)
    (h : DataW.trod enc P w base spare held fuel t cs = some x) : ∃ (sa : Option Addr) (cap : Nat) (l : List Int), cs = [.slice sa l.length cap] ∧ Lst w sa l ∧ l.length ≤ cap ∧ cap ≤ maxLen := by
  obtain ⟨sa, cap, l, h1, h2, h3⟩ := ints_open ht he hc h
  refine ⟨sa, cap, l, h1, h2, ?_⟩
  rcases open_ints ht he hc h with ⟨h4, _⟩ | ⟨a, len, cap', zs, h4, _, hl, hm, _⟩
  · rw [h1] at h4
    simp only [List.cons.injEq, and_true, Value.slice.injEq] at h4
    obtain ⟨_, h5, rfl⟩ := h4
    exact ⟨by omega, Nat.zero_le _⟩
  · rw [h1] at h4
    simp only [List.cons.injEq, and_true, Value.slice.injEq] at h4
    obtain ⟨_, h5, rfl⟩ := h4
    exact ⟨by omega, hm⟩
theorem intss_open {H : Type} {enc : TypeId × Value → H} {P : Program} {w : World} {base : Nat} {spare : Nat → Bool} {held : Bool} {t e f : TypeId} {fuel : Nat} {cs : List Value} {x : DataW H × List MemPlace} (ht : P.underlying t = some (.slice e)) (he : P.underlying e = some (.slice f)) (hf : P.underlying f = some (.int .i64)) (hc : P.cellsOf e = 1) (hc2 : P.cellsOf f = 1)
    (h : DataW.trod enc P w base spare held fuel t cs = some x) : ∃ (sa : Option Addr) (cap : Nat) (ll : List (List Int)), cs = [.slice sa ll.length cap] ∧ Mst w sa ll ∧ ll.length ≤ maxLen ∧ ∀ i, i < ll.length → (ll.getD i []).length ≤ maxLen := by
  rcases DataW.trod_slice ht h with ⟨rfl, _⟩ | ⟨a, len, cap, elems, rest, n, _, rfl, _, _, hl, hm, hlen, hel, _⟩
  · exact ⟨none, 0, [], rfl, .inl rfl, by unfold maxLen; simp, fun i hi => absurd hi (Nat.not_lt_zero _)⟩
  · have each : ∀ i, ∃ l : List Int, i < len → ∃ si ci, w.cell? (a.add i) = some (.slice si l.length ci) ∧ Lst w si l ∧ l.length ≤ ci ∧ ci ≤ maxLen := by
      intro i
      by_cases hi : i < len
      · have h1 := hel i hi
        rw [List.getElem?_eq_getElem (show i < elems.length by omega), hc, Nat.mul_one, Option.bind_eq_some_iff] at h1
        obtain ⟨cs', hcs, hy⟩ := h1
        obtain ⟨si, ci, l, rfl, h2, h3, h4⟩ := ints_open2 he hf hc2 hy
        exact ⟨l, fun _ => ⟨si, ci, cell_of_cells?_one hcs, h2, h3, h4⟩⟩
      · exact ⟨[], fun h => absurd h hi⟩
    obtain ⟨F, hF⟩ := Classical.axiomOfChoice each
    have hat : ∀ i, i < len → ((List.range len).map F).getD i [] = F i := fun i hi => by simp [List.getD_eq_getElem?_getD, hi]
    have hll : ((List.range len).map F).length = len := by simp
    refine ⟨some a, cap, (List.range len).map F, by rw [hll], ?_, by rw [hll]; omega, fun i hi => ?_⟩
    · by_cases h0 : len = 0
      · left; rw [h0]; rfl
      · obtain ⟨b, off, spot⟩ := a
        obtain ⟨si0, ci0, hc0, _⟩ := hF 0 (by omega)
        have hspot : spot = none := by simpa [Addr.add] using World.cell?_spot hc0
        subst hspot
        have ea : ∀ i, (⟨b, off, none⟩ : Addr).add i = ⟨b, off + i, none⟩ := by
          intro i; unfold Addr.add; split <;> simp_all
        refine .inr ⟨b, off, rfl, ?_, fun i hi => ?_⟩
        · rw [ea] at hc0; exact World.block_lt_of_cell? _ _ hc0
        · rw [hll] at hi
          obtain ⟨si, ci, h1, h2, h3, _⟩ := hF i hi
          rw [ea] at h1
          rw [hat i hi]
          exact ⟨si, ci, h1, h2, h3⟩
    · rw [hll] at hi
      obtain ⟨si, ci, h1, h2, h3, h4⟩ := hF i hi
      rw [hat i hi]
      omega

theorem offs_le (ll : List (List Int)) {i j : Nat} (h : i ≤ j) : offs ll i ≤ offs ll j := by
  induction j with
  | zero => obtain rfl : i = 0 := by omega
            exact Nat.le_refl _
  | succ j ih =>
    by_cases e : i = j + 1
    · subst e; exact Nat.le_refl _
    · exact Nat.le_trans (ih (by omega)) (Nat.le_add_right _ _)
def szM (ll : List (List Int)) (left : Int) : Int := if (ll.length : Int) + (offs ll ll.length : Int) ≤ left then left - ll.length - (offs ll ll.length : Int) else -1
theorem szM_yes {ll : List (List Int)} {left : Int} (h : (ll.length : Int) + (offs ll ll.length : Int) ≤ left) : szM ll left = left - ll.length - (offs ll ll.length : Int) := if_pos h
theorem szM_no {ll : List (List Int)} {left : Int} (h : ¬ ((ll.length : Int) + (offs ll ll.length : Int) ≤ left)) : szM ll left = -1 := if_neg h


/-- a block of heads, whole, and the lists -/
structure ArrM (base : Nat) (w : World) (g : Nat) (ll : List (List Int)) (hs : Heads) : Prop where
  len : hs.length = ll.length
  low : base ≤ g
  box : Box w g (cellsM hs ll).toArray 22
  row : ∀ i, i < ll.length → Row base w (hs.getD i (none, 0)).1 (hs.getD i (none, 0)).2 (ll.getD i [])
  sep : ∀ i j a b, i < ll.length → j < ll.length → i ≠ j → (hs.getD i (none, 0)).1 = some a → (hs.getD j (none, 0)).1 = some b → a.block ≠ b.block
  out : ∀ i a, i < ll.length → (hs.getD i (none, 0)).1 = some a → a.block ≠ g
theorem ArrM.lt {base g : Nat} {w : World} {ll : List (List Int)} {hs : Heads} (h : ArrM base w g ll hs) : g < w.heap.size := h.box.lt
theorem ArrM.free {base g : Nat} {w : World} {ll : List (List Int)} {hs : Heads} (h : ArrM base w g ll hs) (j : Nat) : w.frozen? ⟨g, j, none⟩ = false := unfrozen_of_block h.box j
theorem ArrM.cell {base g : Nat} {w : World} {ll : List (List Int)} {hs : Heads} (h : ArrM base w g ll hs) {j : Nat} (hj : j < ll.length) : w.cell? ⟨g, j, none⟩ = some (hcell (hs.getD j (none, 0)) (ll.getD j [])) := by
  rw [cell_of_block h.box j]; simpa using cellsM_at h.len hj
theorem ArrM.ext {base g : Nat} {w w' : World} {ll : List (List Int)} {hs : Heads} (h : ArrM base w g ll hs) (e : Ext w w') : ArrM base w' g ll hs :=
  ⟨h.len, h.low, h.box.keep e, fun i hi => (h.row i hi).ext e, h.sep, h.out⟩
theorem ArrM.mat {base g : Nat} {w : World} {ll : List (List Int)} {hs : Heads} (h : ArrM base w g ll hs) (hl : ll.length ≤ 2000000) : Mat base w (some ⟨g, 0, none⟩) ll.length ll hs :=
  ⟨h.len, ⟨by rw [cellsM_len h.len]; simp, .inr ⟨g, ll.length, _, rfl, h.low, h.box, Nat.le_refl _, by unfold maxLen; omega, by simp [cellsM_len h.len], by simp [List.take_of_length_le, cellsM_len h.len]⟩⟩, h.row, h.sep,
   fun i a b hi ha hb => by cases hb; exact h.out i a hi ha⟩
theorem Row.putNe {base : Nat} {w : World} {sa : Option Addr} {cap : Nat} {l : List Int} (h : Row base w sa cap l) {g : Nat} (hn : ∀ a, sa = some a → a.block ≠ g) (j : Nat) (v : Value) : Row base (w.setCell ⟨g, j, none⟩ v) sa cap l := by
  obtain ⟨h1, h2⟩ := h
  refine ⟨h1, ?_⟩
  rcases h2 with h2 | ⟨b, c, cur, h2, h3, h4, h5⟩
  · exact .inl h2
  · have e : sa = some ⟨b, 0, none⟩ := by simp only [Value.slice.injEq] at h2; exact h2.1
    exact .inr ⟨b, c, cur, h2, h3, (Below.heap_setCell w ⟨g, j, none⟩ v b (hn _ e)).trans h4, h5⟩
theorem set_getG {α : Type} (l : List α) (j i : Nat) (x d : α) (hj : j < l.length) : (l.set j x).getD i d = if i = j then x else l.getD i d := by
  rw [List.getD_eq_getElem?_getD, List.getD_eq_getElem?_getD, List.getElem?_set]
  by_cases e : j = i
  · subst e; simp [hj]
  · rw [if_neg e, if_neg (Ne.symm e)]
theorem cellsM_set {hs : Heads} {ll : List (List Int)} (h : hs.length = ll.length) {k : Nat} (hk : k < ll.length) (x : Option Addr × Nat) (l : List Int) : cellsM (hs.set k x) (ll.set k l) = (cellsM hs ll).set k (hcell x l) := by
  have hn : (hs.set k x).length = (ll.set k l).length := by rw [List.length_set, List.length_set, h]
  apply List.ext_getElem?
  intro i
  rw [List.getElem?_set, cellsM_len h]
  by_cases hi : i < ll.length
  · rw [cellsM_at hn (by rw [List.length_set]; exact hi), set_getG _ _ _ _ _ (by omega), set_getG _ _ _ _ _ hk]
    by_cases e : k = i
    · subst e; rw [if_pos rfl, if_pos rfl, if_pos rfl, if_pos hi]
    · rw [if_neg e, if_neg (Ne.symm e), if_neg (Ne.symm e), cellsM_at h hi]
  · rw [List.getElem?_eq_none (by rw [cellsM_len hn, List.length_set]; omega), if_neg (by omega), List.getElem?_eq_none (by rw [cellsM_len h]; omega)]
theorem ArrM.set {base g : Nat} {w w1 : World} {ll : List (List Int)} {hs : Heads} (h : ArrM base w g ll hs) (E : Ext w w1) {si : Option Addr} {ci : Nat} {l : List Int} (R : Row w.heap.size w1 si ci l) {k : Nat} (hk : k < ll.length) (hb : base ≤ w.heap.size) :
    ArrM base (w1.setCell ⟨g, k, none⟩ (.slice si l.length ci)) g (ll.set k l) (hs.set k (si, ci)) := by
  have hlen := h.len
  have H : ∀ i, (hs.set k (si, ci)).getD i (none, 0) = if i = k then (si, ci) else hs.getD i (none, 0) := fun i => set_getG _ _ _ _ _ (by omega)
  have L : ∀ i, (ll.set k l).getD i [] = if i = k then l else ll.getD i [] := fun i => set_getG _ _ _ _ _ hk
  have hgl := h.lt
  refine ⟨by rw [List.length_set, List.length_set, hlen], h.low, ?_, fun i hi => ?_, fun i j a b hi hj hij ha hb => ?_, fun i a hi ha => ?_⟩
  · have := (h.box.keep E).set k (.slice si l.length ci)
    rw [cellsM_set hlen hk]
    simpa [hcell] using this
  · rw [List.length_set] at hi
    rw [H, L]
    by_cases e : i = k
    · rw [if_pos e, if_pos e]; exact (R.put hgl k _).le hb
    · rw [if_neg e, if_neg e]; exact ((h.row i hi).ext E).putNe (fun a ha => h.out i a hi ha) k _
  · rw [List.length_set] at hi hj
    rw [H] at ha hb
    by_cases ei : i = k
    · rw [if_pos ei] at ha
      rw [if_neg (by omega)] at hb
      have h1 := (R.block_lt ha).1
      have h2 := ((h.row j hj).block_lt hb).2
      omega
    · rw [if_neg ei] at ha
      by_cases ej : j = k
      · rw [if_pos ej] at hb
        have h1 := (R.block_lt hb).1
        have h2 := ((h.row i hi).block_lt ha).2
        omega
      · rw [if_neg ej] at hb
        exact h.sep i j a b hi hj hij ha hb
  · rw [List.length_set] at hi
    rw [H] at ha
    by_cases e : i = k
    · rw [if_pos e] at ha
      have h1 := (R.block_lt ha).1
      omega
    · rw [if_neg e] at ha
      exact h.out i a hi ha
abbrev noHeads (n : Nat) : Heads := List.replicate n (none, 0)
abbrev noLists (n : Nat) : List (List Int) := List.replicate n []
theorem noHeads_at (n i : Nat) : (noHeads n).getD i (none, 0) = (none, 0) := by
  rw [List.getD_eq_getElem?_getD, List.getElem?_replicate]; split <;> rfl
theorem noLists_at (n i : Nat) : (noLists n).getD i [] = [] := by
  rw [List.getD_eq_getElem?_getD, List.getElem?_replicate]; split <;> rfl
theorem ArrM.new (w : World) (n : Nat) (base : Nat) (hb : base ≤ w.heap.size) : ArrM base (w.alloc (.cells (cellsM (noHeads n) (noLists n)).toArray 22)) w.heap.size (noLists n) (noHeads n) :=
  ⟨by simp, hb, Box.new _ _ _, fun i hi => by rw [noHeads_at, noLists_at]; exact Row.nil _ _, fun i j a b _ _ _ ha => by (rw [noHeads_at] at ha; cases ha), fun i a _ ha => by (rw [noHeads_at] at ha; cases ha)⟩
theorem made_rows (n : Nat) : madeCells (Value.slice none 0 0).cells (n * 1) = (cellsM (noHeads n) (noLists n)).toArray := by
  apply Array.ext
  · simp [madeCells, cellsM]
  · intro i h1 h2
    simp [madeCells, Value.cells, cellsM, hcell, Nat.mod_one]
theorem run_makeRows (n : Nat) (hn : n ≤ 2000000) (w : World) : (Instr.makeSlice 44 (.int .i64 (n : Int)) (.int .i64 (n : Int))).run Try.prog w =
    .ok (.slice (some ⟨w.heap.size, 0, none⟩) n n) (w.alloc (.cells (cellsM (noHeads n) (noLists n)).toArray 22)) := by
  obtain ⟨i0, hi, hz0, hz1, hz2⟩ := info_parts Try.infoRow
  have hr := run_make (P := Try.prog) w 44 22 i0 _ Try.underlying44 hi hz0 .i64 .i64 n n (by omega) (Int.le_refl _) (by rw [hz2]; omega) (by omega)
  rw [hz1, Int.toNat_natCast, made_rows] at hr
  exact hr
theorem ext_getL {a b : List (List Int)} (hl : a.length = b.length) (h : ∀ j, j < a.length → a.getD j [] = b.getD j []) : a = b := by
  apply List.ext_getElem hl
  intro i h1 h2
  have := h i h1
  rw [List.getD_eq_getElem?_getD, List.getD_eq_getElem?_getD, List.getElem?_eq_getElem h1, List.getElem?_eq_getElem h2] at this
  simpa using this
/-- what a call answers that makes a list of lists -/
def RetMatN (ll : List (List Int)) (w : World) (e : Ending) (w' : World) : Prop :=
  ∃ sa cap hs, e = .returned (.slice sa ll.length cap) ∧ Mat w.heap.size w' sa cap ll hs ∧ Ext w w'

end Go.Proofs.Ytgmhodmgbhpdaac
