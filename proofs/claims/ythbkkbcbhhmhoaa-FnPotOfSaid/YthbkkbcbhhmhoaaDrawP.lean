/- The arguments that the laws of pots and of commitments draw, and the walks of these laws. -/
import Derived.Test.YthbkkbcbhhmhoaaDrawB
namespace Go.Proofs.Ythbkkbcbhhmhoaa
open Go.ChangeShapes Go.WideShapes Go.ChangeAt Go.RowKit Go.Joins
set_option linter.unusedVariables false

/-- two numbers that were drawn -/
def IIOut (lo hi lo2 hi2 : Int) (w : World) (e : Ending) (w' : World) : Prop :=
  ∃ a b : Int, e = .returned (.tuple #[.int .i64 a, .int .i64 b]) ∧ lo ≤ a ∧ a ≤ hi ∧ lo2 ≤ b ∧ b ≤ hi2 ∧ Ext w w'

set_option maxHeartbeats 400000 in
theorem dDrawPotOf (sa : Option Addr) (len cap : Nat) (w : World) (h : Code w sa len cap) (hl : len ≤ maxLen) :
    Calls Try.prog 37 #[.slice sa len cap] w (IIOut 0 13 0 10001 w) := by
  go_enter Try.func37, Try.ntmps37
  go_wp2_with fail
  refine (newReader_any _ _ _ _ h hl).mono ?_
  rintro e w1 ⟨rfl, hr1, hb1, hs1⟩
  have hE1 : Ext w w1 := Ext.of hb1
  have hgl := hr1.lt
  clear hb1 hs1 h
  go_wp2_with fail
  refine (one_at _ _ 0 [4, 1, 12, 0, 13] 0 13 _ _ _ w1 rfl rfl hr1 (by omega) (by simp) (by simp) (by simp)).mono ?_
  rintro e w2 ⟨a, rfl, a0, a1, hr2, hb2, hs2⟩
  have hB2 := (But.of_below (g := w.heap.size) hE1).trans (((But.refl w.heap.size w1).alloc _).trans hb2)
  clear hr1 hb2 hs2
  go_wp2_with fail
  refine (pick_pos _ _ _ 200 _ hr2 (by omega) (by omega)).mono ?_
  rintro e w3 ⟨v, rfl, v0, v1, hr3, hb3, hs3⟩
  have hB3 := hB2.trans hb3
  clear hr2 hb3 hs3 hB2
  go_wp2_with fail
  refine (one_at _ _ _ [100, 0, 10000, 10001, v] 0 10001 _ _ _ w3 rfl rfl hr3 (by omega) (by simp) (by simp) (by intro z hz; simp at hz; omega)).mono ?_
  rintro e w4 ⟨b, rfl, b0, b1, hr4, hb4, hs4⟩
  have hB4 := hB3.trans (((But.refl w.heap.size w3).alloc _).trans hb4)
  have EE := Ext.of (hB4.to_below (B := w.heap.size) (Nat.le_refl _) (Nat.le_refl _))
  clear hr3 hb4 hs4 hB3 hr4
  go_wp2
  refine bodyPost_ret (v := .tuple #[.int .i64 a, .int .i64 b]) (by simp [results, Try.results37, go_sem]) rfl ?_
  exact ⟨a, b, rfl, a0, a1, b0, b1, EE⟩
end Go.Proofs.Ythbkkbcbhhmhoaa
