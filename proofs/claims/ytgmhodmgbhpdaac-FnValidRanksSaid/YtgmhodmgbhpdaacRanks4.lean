/- Chapter 2: the choice that beats all: contracts of the program and of the model. -/
import Derived.Test.YtgmhodmgbhpdaacRanks3
namespace Go.Proofs.Ytgmhodmgbhpdaac
open Go.ChangeShapes Go.WideShapes Go.ChangeAt Go.RowKit Go.Joins Go.Sort
set_option linter.unusedVariables false

/-- the first number of which something is true -/
def fst (p : Nat → Bool) : Nat → Int
  | 0 => -1
  | n + 1 => if 0 ≤ fst p n then fst p n else if p n = true then n else -1
theorem fst_none {p : Nat → Bool} {n : Nat} (h : ∀ j, j < n → p j = false) : fst p n = -1 := by
  induction n with
  | zero => rfl
  | succ n ih =>
    unfold fst
    rw [ih fun j hj => h j (by omega), if_neg (by omega), if_neg (by rw [h n (by omega)]; simp)]
theorem fst_at {p : Nat → Bool} {n k : Nat} (hk : k < n) (hp : p k = true) (h : ∀ j, j < k → p j = false) : fst p n = k := by
  induction n with
  | zero => omega
  | succ n ih =>
    unfold fst
    by_cases e : k = n
    · subst e; rw [fst_none h, if_neg (by omega), if_pos hp]
    · rw [ih (by omega), if_pos (by omega)]
/-- a is before each other choice in more lists than behind it -/
def btsB (rk : List (List Int)) (a : Nat) : Bool := decide (∀ b : Nat, b < (rk.getD 0 []).length → b ≠ a → rk.length < 2 * bt rk a b)
theorem btsB_iff {rk : List (List Int)} {a : Nat} : btsB rk a = true ↔ ∀ b : Nat, b < (rk.getD 0 []).length → b ≠ a → rk.length < 2 * bt rk a b := by unfold btsB; rw [decide_eq_true_eq]
theorem btsB_no {rk : List (List Int)} {a : Nat} (h : ¬ ∀ b : Nat, b < (rk.getD 0 []).length → b ≠ a → rk.length < 2 * bt rk a b) : btsB rk a = false := decide_eq_false h
def ba (rk : List (List Int)) : Int := if vr rk = true then fst (btsB rk) (rk.getD 0 []).length else -1
theorem ba_yes {rk : List (List Int)} (h : vr rk = true) : ba rk = fst (btsB rk) (rk.getD 0 []).length := if_pos h
theorem ba_no {rk : List (List Int)} (h : vr rk = false) : ba rk = -1 := if_neg (by rw [h]; simp)
theorem prf_le {rk : List (List Int)} (h : vr rk = true) {a b : Nat} (hne : b ≠ a) (ha : a < (rk.getD 0 []).length) (hb : b < (rk.getD 0 []).length) : prf rk a b ≤ prf rk b a ↔ ¬ rk.length < 2 * bt rk a b := by
  have hc : chs rk (a : Int) (b : Int) := ⟨by omega, ⟨by omega, by omega⟩, ⟨by omega, by omega⟩⟩
  rw [prf_yes h hc, prf_yes h hc.symm]
  have := bt_sum h hc
  omega

end Go.Proofs.Ytgmhodmgbhpdaac
