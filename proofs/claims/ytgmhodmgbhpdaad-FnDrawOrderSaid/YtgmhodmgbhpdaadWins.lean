/- Chapter 2: who wins: contracts. -/
import Derived.Test.YtgmhodmgbhpdaadSets
namespace Go.Proofs.Ytgmhodmgbhpdaad
open Go.ChangeShapes Go.WideShapes Go.ChangeAt Go.RowKit Go.Joins Go.Sort
set_option linter.unusedVariables false

theorem Lst.take {w : World} {sa : Option Addr} {l : List Int} (h : Lst w sa l) (k : Nat) : Lst w sa (l.take k) := by
  rcases h with h | ⟨g, off, h1, h2, h3⟩
  · subst h; left; simp
  · refine .inr ⟨g, off, h1, h2, fun i hi => ?_⟩
    rw [List.length_take] at hi
    rw [getD_take l k i (by omega)]; exact h3 i (by omega)

/-- the first place of a number -/
def plc (l : List Int) (x : Int) : Int := if x ∈ l then (l.idxOf x : Int) else -1
theorem plc_in {l : List Int} {x : Int} (h : x ∈ l) : 0 ≤ plc l x := by unfold plc; rw [if_pos h]; omega
theorem plc_out {l : List Int} {x : Int} (h : x ∉ l) : plc l x = -1 := if_neg h
theorem plc_at {l : List Int} {k : Nat} (hk : k < l.length) (h : l.getD k 0 ∉ l.take k) : plc l (l.getD k 0) = k := by
  have hm : l.getD k 0 ∈ l := getD_mem hk
  unfold plc
  rw [if_pos hm]
  have e : l = l.take k ++ l.drop k := (List.take_append_drop k l).symm
  have e2 : l.drop k = l.getD k 0 :: l.drop (k + 1) := by
    rw [List.drop_eq_getElem_cons hk, List.getD_eq_getElem?_getD, List.getElem?_eq_getElem hk]; rfl
  have h3 : ∀ x, x = l.getD k 0 → l.idxOf x = k := by
    intro x hx
    rw [← hx] at h e2
    conv => lhs; rw [e]
    rw [List.idxOf_append, if_neg h, e2, List.idxOf_cons_self, List.length_take]; omega
  rw [h3 _ rfl]
def winB (l : List Int) (need : Int) (s : Nat) : Bool := decide (need ≤ wt l s)
/-- different members of a valid body who win -/
def winsB (l : List Int) (need : Int) (m : List Int) : Bool := vb l need && (vmB m l.length && winB l need (setN m))
end Go.Proofs.Ytgmhodmgbhpdaad
