/- Chapter 2: motions: contracts. -/
import Derived.Test.YtjdfdikifiljjabTally
namespace Go.Proofs.Ytjdfdikifiljjab
open Go.ChangeShapes Go.WideShapes Go.ChangeAt Go.RowKit Go.Joins Go.Sort
set_option linter.unusedVariables false

theorem passB_no {l m : List Int} {need q : Int} {s : Bool} (h : vbal l need m = false) : passB l need m q s = false := by unfold passB; rw [h]; rfl
theorem passB_few {l m : List Int} {need q : Int} {s : Bool} (h2 : ¬ q ≤ tot l - tly l m 0) : passB l need m q s = false := by
  unfold passB; rw [decide_eq_false h2]; simp
theorem passB_simple {l m : List Int} {need q : Int} (h : vbal l need m = true) (h2 : q ≤ tot l - tly l m 0) : passB l need m q true = decide (tly l m 3 < tly l m 1) := by
  unfold passB; rw [h, decide_eq_true h2]; rfl
theorem passB_need {l m : List Int} {need q : Int} (h : vbal l need m = true) (h2 : q ≤ tot l - tly l m 0) : passB l need m q false = decide (need ≤ tly l m 1) := by
  unfold passB; rw [h, decide_eq_true h2]; rfl

end Go.Proofs.Ytjdfdikifiljjab
