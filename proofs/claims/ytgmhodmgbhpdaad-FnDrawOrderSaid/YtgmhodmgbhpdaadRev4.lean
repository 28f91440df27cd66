/- Chapter 3: lists of reveals: what the exact laws' helpers do with them. -/
import Derived.Test.YtgmhodmgbhpdaadRev3
import Derived.Test.YtgmhodmgbhpdaadBodyX
namespace Go.Proofs.Ytgmhodmgbhpdaad
open Go.ChangeShapes Go.WideShapes Go.ChangeAt Go.RowKit Go.Joins Go.Sort
set_option linter.unusedVariables false

theorem Try.infoRv : (Try.prog.info? 31).map (fun i => (i.zero, i.size, i.bytes)) = some (some (.agg #[.int .i64 0, .int .i64 0, .int .i64 0]), 3, 24) := by kernel_rfl
theorem made_rvs (n : Nat) : madeCells (Value.agg #[.int .i64 0, .int .i64 0, .int .i64 0]).cells (n * 3) = ints (zeros (n * 3)) := by
  apply Array.ext
  · simp [madeCells, ints, zeros]
  · intro i h1 h2
    have h3 : i % 3 = 0 ∨ i % 3 = 1 ∨ i % 3 = 2 := by omega
    rcases h3 with h | h | h <;> simp [madeCells, Value.cells, ints, zeros, h]
theorem run_makeRvs (n : Nat) (hn : n ≤ 2000000) (w : World) : (Instr.makeSlice 23 (.int .i64 (n : Int)) (.int .i64 (n : Int))).run Try.prog w =
    .ok (.slice (some ⟨w.heap.size, 0, none⟩) n n) (w.alloc (.cells (ints (zeros (n * 3))) 31)) := by
  obtain ⟨i0, hi, hz0, hz1, hz2⟩ := info_parts Try.infoRv
  have hr := run_make (P := Try.prog) w 23 31 i0 _ Try.underlying23 hi hz0 .i64 .i64 n n (by omega) (Int.le_refl _) (by rw [hz2]; omega) (by omega)
  rw [hz1, Int.toNat_natCast, made_rvs] at hr
  exact hr
/-- a block that holds a list of reveals, whole, number by number -/
def ArrR (w : World) (g : Nat) (m : List Int) : Prop := Box w g (ints m) 31
theorem ArrR.cell {w : World} {g : Nat} {l : List Int} (h : ArrR w g l) {j : Nat} (hj : j < l.length) : w.cell? ⟨g, j, none⟩ = some (.int .i64 (l.getD j 0)) := by
  rw [cell_of_block h j]; simp [ints, hj, List.getD_eq_getElem?_getD]
theorem ArrR.free {w : World} {g : Nat} {l : List Int} (h : ArrR w g l) (j : Nat) : w.frozen? ⟨g, j, none⟩ = false := unfrozen_of_block h j
theorem ArrR.keep {w w' : World} {g : Nat} {l : List Int} (h : ArrR w g l) (e : Ext w w') : ArrR w' g l := Box.keep h e
theorem ArrR.set {w : World} {g : Nat} {l : List Int} (h : ArrR w g l) (j : Nat) (x : Int) : ArrR (w.setCell ⟨g, j, none⟩ (.int .i64 x)) g (l.set j x) := by
  have := Box.set h j (.int .i64 x)
  unfold ArrR ints
  rw [List.map_set]
  simpa [ints] using this
/-- the numbers are those of the first k reveals -/
def rvIs (m : List Int) (ll : List Rv) (k : Nat) : Prop := ∀ i, i < k → m.getD (i * 3) 0 = (ll.getD i Rv.z).c ∧ m.getD (i * 3 + 1) 0 = (ll.getD i Rv.z).v ∧ m.getD (i * 3 + 2) 0 = (ll.getD i Rv.z).s
theorem ArrR.rst {w : World} {g : Nat} {m : List Int} {ll : List Rv} (h : ArrR w g m) (hl : m.length = ll.length * 3) (hi : rvIs m ll ll.length) : Rst w (some ⟨g, 0, none⟩) ll := by
  refine .inr ⟨g, 0, rfl, Box.lt h, fun i hil => ?_⟩
  obtain ⟨a, b, c⟩ := hi i hil
  rw [Nat.zero_add]
  exact ⟨by rw [h.cell (by omega), a], by rw [h.cell (by omega), b], by rw [h.cell (by omega), c]⟩
theorem rvIs_set {m : List Int} {ll : List Rv} {k : Nat} (h : rvIs m ll k) (hk : k * 3 + 2 < m.length) : rvIs (((m.set (k * 3) (ll.getD k Rv.z).c).set (k * 3 + 1) (ll.getD k Rv.z).v).set (k * 3 + 2) (ll.getD k Rv.z).s) ll (k + 1) := by
  intro i hi
  have l1 : (m.set (k * 3) (ll.getD k Rv.z).c).length = m.length := List.length_set
  have l2 : ((m.set (k * 3) (ll.getD k Rv.z).c).set (k * 3 + 1) (ll.getD k Rv.z).v).length = m.length := by rw [List.length_set, l1]
  rw [set_getD _ _ _ _ (by omega), set_getD _ _ _ _ (by omega), set_getD _ _ _ _ (by omega), set_getD _ _ _ _ (by omega), set_getD _ _ _ _ (by omega), set_getD _ _ _ _ (by omega), set_getD _ _ _ _ (by omega), set_getD _ _ _ _ (by omega), set_getD _ _ _ _ (by omega)]
  by_cases e : i = k
  · subst e
    refine ⟨?_, ?_, ?_⟩
    · rw [if_neg (by omega), if_neg (by omega), if_pos rfl]
    · rw [if_neg (by omega), if_pos rfl]
    · rw [if_pos rfl]
  · obtain ⟨a, b, c⟩ := h i (by omega)
    refine ⟨?_, ?_, ?_⟩
    · rw [if_neg (by omega), if_neg (by omega), if_neg (by omega), a]
    · rw [if_neg (by omega), if_neg (by omega), if_neg (by omega), b]
    · rw [if_neg (by omega), if_neg (by omega), if_neg (by omega), c]
/-- what a call that makes a list of reveals answers -/
def RetRvs (ll : List Rv) (w : World) (e : Ending) (w' : World) : Prop :=
  ∃ m : List Int, e = .returned (.slice (some ⟨w.heap.size, 0, none⟩) ll.length ll.length) ∧ ArrR w' w.heap.size m ∧ m.length = ll.length * 3 ∧ rvIs m ll ll.length ∧ Ext w w'
end Go.Proofs.Ytgmhodmgbhpdaad
