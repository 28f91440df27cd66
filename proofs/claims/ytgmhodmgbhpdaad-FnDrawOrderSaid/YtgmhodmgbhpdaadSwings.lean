/- Chapter 2: how often each member decides: contracts. -/
import Derived.Test.YtgmhodmgbhpdaadSets2
import Derived.Test.YtgmhodmgbhpdaadApp
namespace Go.Proofs.Ytgmhodmgbhpdaad
open Go.ChangeShapes Go.WideShapes Go.ChangeAt Go.RowKit Go.Joins Go.Sort
set_option linter.unusedVariables false

def swF (l : List Int) (need : Int) (s j : Nat) : Int := if dec l need s j then 1 else 0
theorem swF_bd (l : List Int) (need : Int) (s j : Nat) : 0 ≤ swF l need s j ∧ swF l need s j ≤ 1 := by unfold swF; split <;> omega
theorem swF_yes {l : List Int} {need : Int} {s j : Nat} (h : dec l need s j = true) : swF l need s j = 1 := if_pos h
theorem swF_no {l : List Int} {need : Int} {s j : Nat} (h : dec l need s j = false) : swF l need s j = 0 := if_neg (by rw [h]; simp)
def swL (l : List Int) (need : Int) : List Int := if sb l need = true then accL (swF l need) l.length (2 ^ l.length) else []
theorem swL_len (l : List Int) (need : Int) : (swL l need).length ≤ l.length := by
  unfold swL; split
  · rw [accL_len]; omega
  · simp
theorem accL_zero (f : Nat → Nat → Int) (n : Nat) : accL f n 0 = zeros n :=
  getD_ext (by rw [zeros_len, accL_len]) (fun j hj => by rw [zeros_at, accL_at _ _ _ _ (by rwa [accL_len] at hj)]; rfl)
/-- s with i -/
def plus (s i : Nat) : Nat := s + 2 ^ i
theorem wrap_plus {s i : Nat} (hs : s ≤ 1000) (hi : i ≤ 12) : IntKind.i64.wrap ((s : Int) + (pw i : Int)) = (plus s i : Int) := by
  have h : pw i ≤ 4096 := pow12 hi
  have e : (plus s i : Int) = (s : Int) + (pw i : Int) := by unfold plus pw; rw [Int.natCast_add]
  rw [e]
  exact IntWalk.i64_in _ (by omega)

end Go.Proofs.Ytgmhodmgbhpdaad
