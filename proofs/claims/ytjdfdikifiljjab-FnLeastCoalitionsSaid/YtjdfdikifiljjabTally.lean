/- Chapter 2: ballots: contracts. -/
import Derived.Test.YtjdfdikifiljjabWins
namespace Go.Proofs.Ytjdfdikifiljjab
open Go.ChangeShapes Go.WideShapes Go.ChangeAt Go.RowKit Go.Joins Go.Sort
set_option linter.unusedVariables false

/-- the votes of those with a ballot -/
def tlyK (l bs : List Int) (kind : Int) : Nat → Int
  | 0 => 0
  | k + 1 => tlyK l bs kind k + if bs.getD k 0 = kind then l.getD k 0 else 0
def tly (l bs : List Int) (kind : Int) : Int := tlyK l bs kind l.length
theorem tlyK_bd (l bs : List Int) (kind : Int) (h : ∀ x ∈ l, 0 ≤ x ∧ x ≤ 100) (k : Nat) (hk : k ≤ l.length) : 0 ≤ tlyK l bs kind k ∧ tlyK l bs kind k ≤ 100 * k := by
  induction k with
  | zero => exact ⟨Int.le_refl _, by simp [tlyK]⟩
  | succ k ih =>
    have h1 := ih (by omega)
    have h2 := h _ (getD_mem (show k < l.length by omega))
    unfold tlyK
    split <;> omega
theorem tly_bd (l bs : List Int) (kind : Int) (h : ∀ x ∈ l, 0 ≤ x ∧ x ≤ 100) : 0 ≤ tly l bs kind ∧ tly l bs kind ≤ 100 * l.length := tlyK_bd l bs kind h _ (Nat.le_refl _)
/-- ballots of a valid body -/
def vbal (l : List Int) (need : Int) (bs : List Int) : Bool := vb l need && (decide (bs.length = l.length) && alli bs 0 3)
theorem vbal_iff {l : List Int} {need : Int} {bs : List Int} : vbal l need bs = true ↔ vb l need = true ∧ bs.length = l.length ∧ ∀ x ∈ bs, 0 ≤ x ∧ x ≤ 3 := by
  unfold vbal; rw [Bool.and_eq_true, Bool.and_eq_true, alli_iff, decide_eq_true_eq]
def tlyR (l : List Int) (need : Int) (bs : List Int) (kind : Int) : Int := if vbal l need bs = true ∧ inr kind 0 3 = true then tly l bs kind else -1
theorem tlyR_yes {l : List Int} {need : Int} {bs : List Int} {kind : Int} (h : vbal l need bs = true) (h2 : inr kind 0 3 = true) : tlyR l need bs kind = tly l bs kind := if_pos ⟨h, h2⟩
theorem tlyR_no {l : List Int} {need : Int} {bs : List Int} {kind : Int} (h : ¬ (vbal l need bs = true ∧ inr kind 0 3 = true)) : tlyR l need bs kind = -1 := if_neg h
def passB (l : List Int) (need : Int) (bs : List Int) (quorum : Int) (simple : Bool) : Bool :=
  vbal l need bs && (decide (quorum ≤ tot l - tly l bs 0) && (if simple then decide (tly l bs 3 < tly l bs 1) else decide (need ≤ tly l bs 1)))

end Go.Proofs.Ytjdfdikifiljjab
