/- The generator's bodies that may be invalid, members and ballots: contracts over the reader. -/
import Derived.Test.YthbkkbcbhhmhoaaDrawB
namespace Go.Proofs.Ythbkkbcbhhmhoaa
open Go.ChangeShapes Go.WideShapes Go.ChangeAt Go.RowKit Go.Joins
set_option linter.unusedVariables false

theorem tot_bd3 (l : List Int) (m : Int) (h : ∀ x ∈ l, -m ≤ x ∧ x ≤ m) : -(m * l.length) ≤ tot l ∧ tot l ≤ m * l.length := by
  induction l with
  | nil => simp [tot]
  | cons a l ih =>
    have h1 := ih fun x hx => h x (List.mem_cons_of_mem _ hx)
    have h2 := h a (List.mem_cons_self ..)
    rw [tot_cons, List.length_cons, Int.natCast_add, Int.mul_add]; omega
/-- the length of the list that a box's first cell holds -/
def wlen (w : World) (k : Nat) : Nat := match w.cell? ⟨k, 0, none⟩ with | some (.slice _ n _) => n | _ => 0
theorem wlen_at {w : World} {k n c : Nat} {s : Option Addr} (h : w.cell? ⟨k, 0, none⟩ = some (.slice s n c)) : wlen w k = n := by unfold wlen; rw [h]
theorem set_all {l : List Int} {lo hi : Int} (h : ∀ x ∈ l, lo ≤ x ∧ x ≤ hi) (i : Nat) (v : Int) (h0 : lo ≤ v) (h1 : v ≤ hi) : ∀ x ∈ l.set i v, lo ≤ x ∧ x ≤ hi := by
  intro x hx
  rcases List.mem_or_eq_of_mem_set hx with hx | rfl
  · exact h x hx
  · exact ⟨h0, h1⟩
theorem len_snocC (o : List Int) (x : Int) : o.length + 1 = (o ++ [x]).length := by simp

theorem Row.putNeB {base : Nat} {w : World} {b cap : Nat} {l : List Int} (h : Row base w (some ⟨b, 0, none⟩) cap l) {g : Nat} (hn : b ≠ g) (j : Nat) (v : Value) : Row base (w.setCell ⟨g, j, none⟩ v) (some ⟨b, 0, none⟩) cap l := by
  obtain ⟨h1, h2⟩ := h
  refine ⟨h1, ?_⟩
  rcases h2 with h2 | ⟨x, c, cur, h2, h3, h4, h5⟩
  · exact .inl h2
  · have e : b = x := by simp only [Value.slice.injEq, Option.some.injEq, Addr.mk.injEq] at h2; exact h2.1.1
    exact .inr ⟨x, c, cur, h2, h3, (Below.heap_setCell w ⟨g, j, none⟩ v x (by subst e; exact hn)).trans h4, h5⟩


end Go.Proofs.Ythbkkbcbhhmhoaa
