/- The arguments that the laws of pots and of commitments draw, and the walks of these laws. -/
import Derived.Test.YthbkkbcbhhmhoabDrawB
namespace Go.Proofs.Ythbkkbcbhhmhoab
open Go.ChangeShapes Go.WideShapes Go.ChangeAt Go.RowKit Go.Joins
set_option linter.unusedVariables false

/-- two numbers that were drawn -/
def IIOut (lo hi lo2 hi2 : Int) (w : World) (e : Ending) (w' : World) : Prop :=
  ∃ a b : Int, e = .returned (.tuple #[.int .i64 a, .int .i64 b]) ∧ lo ≤ a ∧ a ≤ hi ∧ lo2 ≤ b ∧ b ≤ hi2 ∧ Ext w w'

set_option maxHeartbeats 400000 in
theorem dDrawCommitTo (sa : Option Addr) (len cap : Nat) (w : World) (h : Code w sa len cap) (hl : len ≤ maxLen) :
    Calls Try.prog 38 #[.slice sa len cap] w (IIOut (-1) 50001 (-1) 10000 w) := by
  go_enter Try.func38, Try.ntmps38
  go_wp2_with fail
  refine (newReader_any _ _ _ _ h hl).mono ?_
  rintro e w1 ⟨rfl, hr1, hb1, hs1⟩
  have hE1 : Ext w w1 := Ext.of hb1
  have hgl := hr1.lt
  clear hb1 hs1 h
  go_wp2_with fail
  refine (pick_pos _ _ _ 250 _ hr1 (by omega) (by omega)).mono ?_
  rintro e w2 ⟨u, rfl, u0, u1, hr2, hb2, hs2⟩
  have hB2 := (But.of_below (g := w.heap.size) hE1).trans hb2
  clear hr1 hb2 hs2
  go_wp2_with fail
  refine (pick_pos _ _ _ 250 _ hr2 (by omega) (by omega)).mono ?_
  rintro e w3 ⟨v, rfl, v0, v1, hr3, hb3, hs3⟩
  have hB3 := hB2.trans hb3
  clear hr2 hb3 hs3 hB2
  go_wp2_with fail
  refine (one_at _ _ _ [u, 50000, 0, 50001, -1, 200 * v] (-1) 50001 _ _ _ w3 rfl rfl hr3 (by omega) (by simp) (by simp) (by intro z hz; simp at hz; omega)).mono ?_
  rintro e w4 ⟨a, rfl, a0, a1, hr4, hb4, hs4⟩
  have hB4 := hB3.trans (((But.refl w.heap.size w3).alloc _).trans hb4)
  clear hr3 hb4 hs4 hB3
  go_wp2_with fail
  refine (pick_pos _ _ _ 250 _ hr4 (by omega) (by omega)).mono ?_
  rintro e w5 ⟨x, rfl, x0, x1, hr5, hb5, hs5⟩
  have hB5 := hB4.trans hb5
  clear hr4 hb5 hs5 hB4
  go_wp2_with fail
  refine (one_at _ _ _ [x, 9999, 0, 10000, -1] (-1) 10000 _ _ _ w5 rfl rfl hr5 (by omega) (by simp) (by simp) (by intro z hz; simp at hz; omega)).mono ?_
  rintro e w6 ⟨b, rfl, b0, b1, hr6, hb6, hs6⟩
  have hB6 := hB5.trans (((But.refl w.heap.size w5).alloc _).trans hb6)
  have EE := Ext.of (hB6.to_below (B := w.heap.size) (Nat.le_refl _) (Nat.le_refl _))
  clear hr5 hb6 hs6 hB5 hr6
  go_wp2
  refine bodyPost_ret (v := .tuple #[.int .i64 a, .int .i64 b]) (by simp [results, Try.results38, go_sem]) rfl ?_
  exact ⟨a, b, rfl, a0, a1, b0, b1, EE⟩
end Go.Proofs.Ythbkkbcbhhmhoab
