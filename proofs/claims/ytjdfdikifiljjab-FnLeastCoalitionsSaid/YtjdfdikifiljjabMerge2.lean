/- Chapter 2: members who vote together: the model's contract. -/
import Derived.Test.YtjdfdikifiljjabMerge
import Derived.Deep.RegionWith
import Derived.StillTailTactics
namespace Go.Proofs.Ytjdfdikifiljjab
open Go.ChangeShapes Go.WideShapes Go.ChangeAt Go.RowKit Go.Joins Go.Sort
set_option linter.unusedVariables false

theorem box_held {W w' : World} {k : Nat} {a b : Value} {T : TypeId} (X : Box W k #[a, b] T) (e : Ext W w') : w'.cell? ⟨k, 0, none⟩ = some a ∧ w'.cell? ⟨k, 1, none⟩ = some b ∧ Ext W w' :=
  ⟨(X.keep e).two.1, (X.keep e).two.2.1, e⟩
theorem box_held4 {W w' : World} {k g o1 o2 : Nat} {a b c d : Value} {T : TypeId} (X : Box W k #[a, b] T) (e1 : W.cell? ⟨g, o1, none⟩ = some c) (e2 : W.cell? ⟨g, o2, none⟩ = some d) (hg : g < W.heap.size) (e : Ext W w') :
    w'.cell? ⟨k, 0, none⟩ = some a ∧ w'.cell? ⟨k, 1, none⟩ = some b ∧ w'.cell? ⟨g, o1, none⟩ = some c ∧ w'.cell? ⟨g, o2, none⟩ = some d ∧ Ext W w' :=
  ⟨(X.keep e).two.1, (X.keep e).two.2.1, (e.cell hg).trans e1, (e.cell hg).trans e2, e⟩
theorem box_held3 {W w' : World} {k g o1 : Nat} {a b c : Value} {T : TypeId} (X : Box W k #[a, b] T) (e1 : W.cell? ⟨g, o1, none⟩ = some c) (hg : g < W.heap.size) (e : Ext W w') :
    w'.cell? ⟨k, 0, none⟩ = some a ∧ w'.cell? ⟨k, 1, none⟩ = some b ∧ w'.cell? ⟨g, o1, none⟩ = some c ∧ Ext W w' :=
  ⟨(X.keep e).two.1, (X.keep e).two.2.1, (e.cell hg).trans e1, e⟩
theorem vm_pair {a b n : Int} : vmB [a, b] n = true ↔ 0 ≤ a ∧ a ≤ n - 1 ∧ 0 ≤ b ∧ b ≤ n - 1 ∧ a ≠ b := by
  rw [vmB_iff]; simp; omega
theorem pair_lst (w : World) (a b : Int) (T : TypeId) : Lst (w.alloc (.cells #[.int .i64 a, .int .i64 b] T)) (some ⟨w.heap.size, 0, none⟩) [a, b] := by
  refine .inr ⟨w.heap.size, 0, rfl, by simp, fun i hi => ?_⟩
  rw [cell_of_block (box_new w _ _)]
  match i, hi with
  | 0, _ => rfl
  | 1, _ => rfl

end Go.Proofs.Ytjdfdikifiljjab
