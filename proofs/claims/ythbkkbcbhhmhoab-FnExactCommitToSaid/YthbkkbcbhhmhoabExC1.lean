/- Chapter 3: the walk of the exact law of commitments. -/
import Derived.Test.YthbkkbcbhhmhoabCom1
namespace Go.Proofs.Ythbkkbcbhhmhoab
open Go.ChangeShapes Go.WideShapes Go.ChangeAt Go.RowKit Go.Joins Go.Sort
set_option linter.unusedVariables false
theorem walkFnExactCommitTo (w : World) (n0 : Int) (n1 : Int) :
    Calls Try.prog 5 #[.int .i64 n0, .int .i64 n1] w fun e w' => e = .returned (.bool true) ∧ Below w.heap.size w w' := by
  go_enter Try.func5, Try.ntmps5
  have hne : ((cm n0 n1 : Int) != cm n0 n1) = false := by simp
  go_wp2_with fail; refine (specCommitTo n0 n1 _).mono ?_; rintro e w' ⟨rfl, rfl⟩
  go_wp2_with fail; refine (implCommit n0 n1 _).mono ?_; rintro e w' ⟨rfl, rfl⟩
  go_wp2
  go_ret
  exact ⟨rfl, Ext.refl _⟩
end Go.Proofs.Ythbkkbcbhhmhoab
