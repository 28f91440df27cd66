/- The generator's amounts and rates. -/
import Derived.Test.YtmoefeifaiimaacDraw2
namespace Go.Proofs.Ytmoefeifaiimaac
open Go.ChangeShapes Go.WideShapes Go.ChangeAt Go.RowKit Go.Joins
set_option linter.unusedVariables false

/-- an amount in the range -1 .. 1000001; at most three picks -/
def AmtRes (B g p : Nat) (w : World) (e : Ending) (w' : World) : Prop :=
  ∃ v : Int, e = .returned (.int .i64 v) ∧ -1 ≤ v ∧ v ≤ 1000001 ∧ (∃ p', p' ≤ p + 3 ∧ Rdr B w' g p') ∧ But g w w'

/-- a rate that is some pair of small numbers; at most n picks -/
def RateRes (B g p n : Nat) (w : World) (e : Ending) (w' : World) : Prop :=
  ∃ x y : Int, e = .returned (.agg #[.int .i64 x, .int .i64 y]) ∧ -1 ≤ x ∧ x ≤ 1001 ∧ 0 ≤ y ∧ y ≤ 1001 ∧ (∃ p', p' ≤ p + n ∧ Rdr B w' g p') ∧ But g w w'

theorem anAmount_any (B g p : Nat) (w : World) (h : Rdr B w g p) (hp : p < 900000) :
    Calls Try.prog 42 #[.pointer (some ⟨g, 0, none⟩)] w (AmtRes B g p w) := by
  go_enter Try.func42, Try.ntmps42
  go_wp2_with fail
  refine (pick_pos B g p _ w h (by omega) (by omega)).mono ?_
  rintro e w1 ⟨v1, rfl, a1, b1, hr1, hb1, hs1⟩
  clear hs1
  go_wp2_with fail
  refine (pick_pos B g _ _ w1 hr1 (by omega) (by omega)).mono ?_
  rintro e w2 ⟨v2, rfl, a2, b2, hr2, hb2, hs2⟩
  clear hs2
  go_wp2_with fail
  refine (one_new B g (p + 1 + 1) [1000, 10 * v1, v2, 0, 12345, 1000000, 999999, -1, 1000001, 25, 90909, 50] (-1) 1000001 _ w2 hr2 (by omega) (by simp) (by simp) (by first | omega | (simp; done) | (simp; omega))).mono ?_
  rintro e w3 ⟨v, rfl, a3, b3, hr3, hb3, hs3⟩
  clear hs3
  go_wp2
  go_ret
  exact ⟨v, rfl, a3, b3, ⟨_, by omega, hr3⟩, (hb1.trans hb2).trans ((But.of_below ((Below.refl _ _).alloc (Nat.le_refl _) _)).trans hb3)⟩

end Go.Proofs.Ytmoefeifaiimaac
