/- Chapter 2: members who vote together: contracts. -/
import Derived.Test.YtjdfdikifiljjabWins
import Derived.Test.YtjdfdikifiljjabDual
namespace Go.Proofs.Ytjdfdikifiljjab
open Go.ChangeShapes Go.WideShapes Go.ChangeAt Go.RowKit Go.Joins Go.Sort
set_option linter.unusedVariables false

/-- the first votes when two members vote together -/
def mgK (l : List Int) (i k : Nat) : Nat → List Int
  | 0 => []
  | c + 1 => mgK l i k c ++ if c = i then [l.getD i 0 + l.getD k 0] else if c = k then [] else [l.getD c 0]
theorem mgK_len (l : List Int) (i k c : Nat) : (mgK l i k c).length ≤ c := by
  induction c with
  | zero => simp [mgK]
  | succ c ih => unfold mgK; rw [List.length_append]; split <;> (try split) <;> simp <;> omega
def mok (l : List Int) (need a b : Int) : Bool := decide (vb l need = true ∧ 0 ≤ a ∧ 0 ≤ b ∧ a ≠ b ∧ a < l.length ∧ b < l.length ∧ l.getD a.toNat 0 + l.getD b.toNat 0 ≤ 100)
theorem mok_iff {l : List Int} {need a b : Int} : mok l need a b = true ↔ vb l need = true ∧ 0 ≤ a ∧ 0 ≤ b ∧ a ≠ b ∧ a < l.length ∧ b < l.length ∧ l.getD a.toNat 0 + l.getD b.toNat 0 ≤ 100 := by unfold mok; simp only [decide_eq_true_eq]
theorem mok_comm (l : List Int) (need a b : Int) : mok l need a b = mok l need b a := by
  rw [Bool.eq_iff_iff, mok_iff, mok_iff]; constructor <;> (rintro ⟨h1, h2, h3, h4, h5, h6, h7⟩; exact ⟨h1, h3, h2, fun e => h4 e.symm, h6, h5, by omega⟩)
def mgL (l : List Int) (need a b : Int) : List Int := if mok l need a b = true then mgK l (min a b).toNat (max a b).toNat l.length else []
def mgN (l : List Int) (need a b : Int) : Int := if mok l need a b = true then need else 0
theorem mg_no {l : List Int} {need a b : Int} (h : ¬ mok l need a b = true) : mgL l need a b = [] ∧ mgN l need a b = 0 := ⟨if_neg h, if_neg h⟩
theorem mg_yes {l : List Int} {need a b : Int} (h : mok l need a b = true) {p q : Nat} (hp : min a b = p) (hq : max a b = q) : mgL l need a b = mgK l p q l.length ∧ mgN l need a b = need := by
  refine ⟨?_, if_pos h⟩
  unfold mgL; rw [if_pos h, hp, hq, Int.toNat_natCast, Int.toNat_natCast]
theorem mgL_len (l : List Int) (need a b : Int) : (mgL l need a b).length ≤ l.length := by
  unfold mgL; split
  · exact mgK_len _ _ _ _
  · simp
theorem mg_comm (l : List Int) (need a b : Int) : mgL l need a b = mgL l need b a ∧ mgN l need a b = mgN l need b a := by
  unfold mgL mgN; rw [mok_comm l need a b, Int.min_comm a b, Int.max_comm a b]; exact ⟨rfl, rfl⟩
theorem len_snoc (o : List Int) (x : Int) : o.length + 1 = (o ++ [x]).length := by simp

end Go.Proofs.Ytjdfdikifiljjab
