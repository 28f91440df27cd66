/- The arguments that chapter 1's laws on periods and payments draw. -/
import Derived.Test.YtjdfdikifiljjabDraw3
namespace Go.Proofs.Ytjdfdikifiljjab
open Go.ChangeShapes Go.WideShapes Go.ChangeAt Go.RowKit Go.Joins
set_option linter.unusedVariables false

/-- some amount, some rate and some number -/
def AmtRateIntOut (w : World) (e : Ending) (w' : World) : Prop := ∃ n x y k : Int, e = .returned (.tuple #[.int .i64 n, .agg #[.int .i64 x, .int .i64 y], .int .i64 k]) ∧ -1 ≤ n ∧ n ≤ 1000001 ∧ -1 ≤ x ∧ x ≤ 1001 ∧ 0 ≤ y ∧ y ≤ 1001 ∧ -1 ≤ k ∧ k ≤ 1000001 ∧ Below w.heap.size w w'
def AmtOut (w : World) (e : Ending) (w' : World) : Prop := ∃ n : Int, e = .returned (.int .i64 n) ∧ -1 ≤ n ∧ n ≤ 1000001 ∧ Below w.heap.size w w'

theorem drawCompound_any (sa : Option Addr) (len cap : Nat) (w : World) (h : Code w sa len cap) (hl : len ≤ maxLen) :
    Calls Try.prog 55 #[.slice sa len cap] w (AmtRateIntOut w) := by
  have h1 := h.keep ((Below.refl _ _).alloc (Nat.le_refl _) (.cells #[.int .i64 0, .int .i64 0] 52))
  go_enter Try.func55, Try.ntmps55
  go_wp2_with fail
  refine (newReader_any _ _ _ _ h1 hl).mono ?_
  rintro e w1 ⟨rfl, hr1, hb1, hs1⟩
  have x1 := below_box hb1 (by simp) (box_new w _ _)
  have hz1 : w.heap.size < w1.heap.size := by rw [hs1]; first | omega | (simp; done) | (simp; omega)
  have B1 := hide (((Below.refl _ _).alloc (Nat.le_refl _) _).trans (hb1.mono (by simp)))
  clear hb1 hs1 h1 h
  simp at hr1
  go_wp2_with fail
  refine (anAmount_any _ _ _ _ hr1 (by omega)).mono ?_
  rintro e w2 ⟨n, rfl, n1, n2, ⟨p2, hp2, hr2⟩, hb2⟩
  have x2 := hb2.box hz1 (by omega) x1
  have hz2 : w.heap.size < w2.heap.size := Nat.lt_of_lt_of_le hz1 hb2.size
  have B2 := hide (B1.out.trans (hb2.to_below (by omega) (by omega)))
  clear x1 hz1 hr1 hb2 B1
  go_wp2_with fail
  refine (anyRate_any _ _ _ _ hr2 (by omega)).mono ?_
  rintro e w3 ⟨x, y, rfl, a1, b1, a2, b2, ⟨p3, hp3, hr3⟩, hb3⟩
  have x3 := hb3.box hz2 (by omega) x2
  have hz3 : w.heap.size < w3.heap.size := Nat.lt_of_lt_of_le hz2 hb3.size
  have B3 := hide (B2.out.trans (hb3.to_below (by omega) (by omega)))
  clear x2 hz2 hr2 hb3 B2
  go_wp2_with fail
  refine (one_new _ _ _ [3, 1, 0, 12, 60, 61, -1] (-1) 1000001 _ w3 hr3 (by omega) (by simp) (by simp) (by simp)).mono ?_
  rintro e w4 ⟨k, rfl, a3, b3, hr4, hb4, hs4⟩
  have x4 := hb4.box (by first | omega | (simp; done) | (simp; omega)) (by omega) (box_alloc hz3 x3 _)
  have B4 := hide ((B3.out.alloc (by omega) _).trans (hb4.to_below (by omega) (by first | omega | (simp; done) | (simp; omega))))
  obtain ⟨c0, c1, f0, f1⟩ := box2 x4
  clear x3 hz3 hr3 hb4 B3 hs4 hr4 hp2 hp3
  go_wp2
  refine bodyPost_ret (v := .tuple #[.int .i64 n, .agg #[.int .i64 x, .int .i64 y], .int .i64 k]) (by simp [results, Try.results55, go_sem, c0, c1]) rfl ⟨n, x, y, k, rfl, n1, n2, a1, b1, a2, b2, a3, b3, (B4.out.setCell (Nat.le_refl _) _).setCell (Nat.le_refl _) _⟩
end Go.Proofs.Ytjdfdikifiljjab
