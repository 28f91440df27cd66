/- The arguments that chapter 1's first laws draw. -/
import Derived.Test.YtmoefeifaiimaaaDraw3
namespace Go.Proofs.Ytmoefeifaiimaaa
open Go.ChangeShapes Go.WideShapes Go.ChangeAt Go.RowKit Go.Joins
set_option linter.unusedVariables false

/-- some rate -/
def RateOut (w : World) (e : Ending) (w' : World) : Prop := ∃ x y : Int, e = .returned (.agg #[.int .i64 x, .int .i64 y]) ∧ -1 ≤ x ∧ x ≤ 1001 ∧ 0 ≤ y ∧ y ≤ 1001 ∧ Below w.heap.size w w'
/-- some amount and some rate -/
def AmtRateOut (w : World) (e : Ending) (w' : World) : Prop := ∃ n x y : Int, e = .returned (.tuple #[.int .i64 n, .agg #[.int .i64 x, .int .i64 y]]) ∧ -1 ≤ n ∧ n ≤ 1000001 ∧ -1 ≤ x ∧ x ≤ 1001 ∧ 0 ≤ y ∧ y ≤ 1001 ∧ Below w.heap.size w w'

theorem drawValidRate_any (sa : Option Addr) (len cap : Nat) (w : World) (h : Code w sa len cap) (hl : len ≤ maxLen) :
    Calls Try.prog 15 #[.slice sa len cap] w (RateOut w) := by
  have h1 := h.keep ((Below.refl _ _).alloc (Nat.le_refl _) (.cells #[.int .i64 0, .int .i64 0] 24))
  go_enter Try.func15, Try.ntmps15
  go_wp2_with fail
  refine (newReader_any _ _ _ _ h1 hl).mono ?_
  rintro e w1 ⟨rfl, hr1, hb1, hs1⟩
  have x1 := below_box hb1 (by simp) (box_new w _ _)
  have hz1 : w.heap.size < w1.heap.size := by rw [hs1]; first | omega | (simp; done) | (simp; omega)
  have B1 := hide (((Below.refl _ _).alloc (Nat.le_refl _) _).trans (hb1.mono (by simp)))
  clear hb1 hs1 h1 h
  simp at hr1
  go_wp2_with fail
  refine (anyRate_any _ _ _ _ hr1 (by omega)).mono ?_
  rintro e w2 ⟨x, y, rfl, a1, b1, a2, b2, ⟨p2, hp2, hr2⟩, hb2⟩
  have x2 := hb2.box hz1 (by omega) x1
  have B2 := hide (B1.out.trans (hb2.to_below (by omega) (by omega)))
  obtain ⟨c0, c1, f0, f1⟩ := box2 x2
  clear x1 hz1 hr1 hr2 hb2 hp2 B1
  go_wp2
  refine bodyPost_ret (v := .agg #[.int .i64 x, .int .i64 y]) (by simp [results, Try.results15, go_sem, c0, c1]) rfl ⟨x, y, rfl, a1, b1, a2, b2, (B2.out.setCell (Nat.le_refl _) _).setCell (Nat.le_refl _) _⟩

theorem drawRoundDown_any (sa : Option Addr) (len cap : Nat) (w : World) (h : Code w sa len cap) (hl : len ≤ maxLen) :
    Calls Try.prog 21 #[.slice sa len cap] w (AmtRateOut w) := by
  have h1 := h.keep ((Below.refl _ _).alloc (Nat.le_refl _) (.cells #[.int .i64 0, .int .i64 0] 24))
  go_enter Try.func21, Try.ntmps21
  go_wp2_with fail
  refine (newReader_any _ _ _ _ h1 hl).mono ?_
  rintro e w1 ⟨rfl, hr1, hb1, hs1⟩
  have x1 := below_box hb1 (by simp) (box_new w _ _)
  have hz1 : w.heap.size < w1.heap.size := by rw [hs1]; first | omega | (simp; done) | (simp; omega)
  have B1 := hide (((Below.refl _ _).alloc (Nat.le_refl _) _).trans (hb1.mono (by simp)))
  clear hb1 hs1 h1 h
  simp at hr1
  go_wp2_with fail
  refine (anAmount_any _ _ _ _ hr1 (by omega)).mono ?_
  rintro e w2 ⟨n, rfl, n1, n2, ⟨p2, hp2, hr2⟩, hb2⟩
  have x2 := hb2.box hz1 (by omega) x1
  have hz2 : w.heap.size < w2.heap.size := Nat.lt_of_lt_of_le hz1 hb2.size
  have B2 := hide (B1.out.trans (hb2.to_below (by omega) (by omega)))
  clear x1 hz1 hr1 hb2 B1
  go_wp2_with fail
  refine (anyRate_any _ _ _ _ hr2 (by omega)).mono ?_
  rintro e w3 ⟨x, y, rfl, a1, b1, a2, b2, ⟨p3, hp3, hr3⟩, hb3⟩
  have x3 := hb3.box hz2 (by omega) x2
  have B3 := hide (B2.out.trans (hb3.to_below (by omega) (by omega)))
  obtain ⟨c0, c1, f0, f1⟩ := box2 x3
  clear x2 hz2 hr2 hb3 B2 hp2 hp3
  go_wp2
  refine bodyPost_ret (v := .tuple #[.int .i64 n, .agg #[.int .i64 x, .int .i64 y]]) (by simp [results, Try.results21, go_sem, c0, c1]) rfl ⟨n, x, y, rfl, n1, n2, a1, b1, a2, b2, (B3.out.setCell (Nat.le_refl _) _).setCell (Nat.le_refl _) _⟩
end Go.Proofs.Ytmoefeifaiimaaa
