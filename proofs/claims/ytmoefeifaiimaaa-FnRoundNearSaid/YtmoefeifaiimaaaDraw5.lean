/- The arguments that chapter 1's rounding laws draw. -/
import Derived.Test.YtmoefeifaiimaaaDraw4
namespace Go.Proofs.Ytmoefeifaiimaaa
open Go.ChangeShapes Go.WideShapes Go.ChangeAt Go.RowKit Go.Joins
set_option linter.unusedVariables false

theorem drawRoundUp_any (sa : Option Addr) (len cap : Nat) (w : World) (h : Code w sa len cap) (hl : len ≤ maxLen) :
    Calls Try.prog 23 #[.slice sa len cap] w (AmtRateOut w) := by
  have h1 := h.keep ((Below.refl _ _).alloc (Nat.le_refl _) (.cells #[.int .i64 0, .int .i64 0] 24))
  go_enter Try.func23, Try.ntmps23
  go_wp2_with fail
  refine (drawRoundDown_any _ _ _ _ h1 hl).mono ?_
  rintro e w1 ⟨n, x, y, rfl, n1, n2, a1, b1, a2, b2, hb1⟩
  have x1 := below_box hb1 (by simp) (box_new w _ _)
  have B1 := hide (((Below.refl _ _).alloc (Nat.le_refl _) _).trans (hb1.mono (by simp)))
  obtain ⟨c0, c1, f0, f1⟩ := box2 x1
  clear hb1 h1 h
  go_wp2
  refine bodyPost_ret (v := .tuple #[.int .i64 n, .agg #[.int .i64 x, .int .i64 y]]) (by simp [results, Try.results23, go_sem, c0, c1]) rfl ⟨n, x, y, rfl, n1, n2, a1, b1, a2, b2, (B1.out.setCell (Nat.le_refl _) _).setCell (Nat.le_refl _) _⟩

theorem drawRoundNear_any (sa : Option Addr) (len cap : Nat) (w : World) (h : Code w sa len cap) (hl : len ≤ maxLen) :
    Calls Try.prog 25 #[.slice sa len cap] w (AmtRateOut w) := by
  have h1 := h.keep ((Below.refl _ _).alloc (Nat.le_refl _) (.cells #[.int .i64 0, .int .i64 0] 24))
  go_enter Try.func25, Try.ntmps25
  go_wp2_with fail
  refine (drawRoundDown_any _ _ _ _ h1 hl).mono ?_
  rintro e w1 ⟨n, x, y, rfl, n1, n2, a1, b1, a2, b2, hb1⟩
  have x1 := below_box hb1 (by simp) (box_new w _ _)
  have B1 := hide (((Below.refl _ _).alloc (Nat.le_refl _) _).trans (hb1.mono (by simp)))
  obtain ⟨c0, c1, f0, f1⟩ := box2 x1
  clear hb1 h1 h
  go_wp2
  refine bodyPost_ret (v := .tuple #[.int .i64 n, .agg #[.int .i64 x, .int .i64 y]]) (by simp [results, Try.results25, go_sem, c0, c1]) rfl ⟨n, x, y, rfl, n1, n2, a1, b1, a2, b2, (B1.out.setCell (Nat.le_refl _) _).setCell (Nat.le_refl _) _⟩

theorem drawRoundEven_any (sa : Option Addr) (len cap : Nat) (w : World) (h : Code w sa len cap) (hl : len ≤ maxLen) :
    Calls Try.prog 28 #[.slice sa len cap] w (AmtRateOut w) := by
  have h1 := h.keep ((Below.refl _ _).alloc (Nat.le_refl _) (.cells #[.int .i64 0, .int .i64 0] 24))
  go_enter Try.func28, Try.ntmps28
  go_wp2_with fail
  refine (newReader_any _ _ _ _ h1 hl).mono ?_
  rintro e w1 ⟨rfl, hr1, hb1, hs1⟩
  have x1 := below_box hb1 (by simp) (box_new w _ _)
  have hz1 : w.heap.size < w1.heap.size := by rw [hs1]; first | omega | (simp; done) | (simp; omega)
  have B1 := hide (((Below.refl _ _).alloc (Nat.le_refl _) _).trans (hb1.mono (by simp)))
  clear hb1 hs1 h1 h
  simp at hr1
  go_wp2_with fail
  refine (pick_pos _ _ _ _ _ hr1 (by omega) (by omega)).mono ?_
  rintro e w2 ⟨v, rfl, v1, v2, hr2, hb2, hs2⟩
  have x2 := hb2.box hz1 (by omega) x1
  have hz2 : w.heap.size < w2.heap.size := by omega
  have B2 := hide (B1.out.trans (hb2.to_below (by omega) (by omega)))
  clear x1 hz1 hr1 hb2 B1 hs2
  by_cases h0 : v = 0
  · subst h0
    go_wp2_with fail
    refine (pick_pos _ _ _ _ _ hr2 (by omega) (by omega)).mono ?_
    rintro e w3 ⟨n, rfl, n1, n2, hr3, hb3, hs3⟩
    have x3 := hb3.box hz2 (by omega) x2
    have hz3 : w.heap.size < w3.heap.size := by omega
    have B3 := hide (B2.out.trans (hb3.to_below (by omega) (by omega)))
    clear x2 hz2 hr2 hb3 B2 hs3
    go_wp2_with fail
    refine (one_new _ _ _ [1, 3, 5] 1 5 _ w3 hr3 (by omega) (by simp) (by simp) (by simp)).mono ?_
    rintro e w4 ⟨x, rfl, a1, b1, hr4, hb4, hs4⟩
    have x4 := hb4.box (by first | omega | (simp; done) | (simp; omega)) (by omega) (box_alloc hz3 x3 _)
    have hz4 : w.heap.size < w4.heap.size := by rw [hs4]; first | omega | (simp; done) | (simp; omega)
    have B4 := hide ((B3.out.alloc (by omega) _).trans (hb4.to_below (by omega) (by first | omega | (simp; done) | (simp; omega))))
    clear x3 hz3 hr3 hb4 B3 hs4
    go_wp2_with fail
    refine (one_new _ _ _ [2, 10, 6] 2 10 _ w4 hr4 (by omega) (by simp) (by simp) (by simp)).mono ?_
    rintro e w5 ⟨y, rfl, a2, b2, hr5, hb5, hs5⟩
    have x5 := hb5.box (by first | omega | (simp; done) | (simp; omega)) (by omega) (box_alloc hz4 x4 _)
    have B5 := hide ((B4.out.alloc (by omega) _).trans (hb5.to_below (by omega) (by first | omega | (simp; done) | (simp; omega))))
    obtain ⟨c0, c1, f0, f1⟩ := box2 x5
    clear x4 hz4 hr4 hb5 B4 hs5
    go_wp2
    refine bodyPost_ret (v := .tuple #[.int .i64 n, .agg #[.int .i64 x, .int .i64 y]]) (by simp [results, Try.results28, go_sem, c0, c1]) rfl ⟨n, x, y, rfl, by omega, by omega, by omega, by omega, by omega, by omega, (B5.out.setCell (Nat.le_refl _) _).setCell (Nat.le_refl _) _⟩
  · have hv0 : (v == 0) = false := by simp [h0]
    go_wp2_with fail
    refine (anAmount_any _ _ _ _ hr2 (by omega)).mono ?_
    rintro e w3 ⟨n, rfl, n1, n2, ⟨p3, hp3, hr3⟩, hb3⟩
    have x3 := hb3.box hz2 (by omega) x2
    have hz3 : w.heap.size < w3.heap.size := Nat.lt_of_lt_of_le hz2 hb3.size
    have B3 := hide (B2.out.trans (hb3.to_below (by omega) (by omega)))
    clear x2 hz2 hr2 hb3 B2
    go_wp2_with fail
    refine (anyRate_any _ _ _ _ hr3 (by omega)).mono ?_
    rintro e w4 ⟨x, y, rfl, a1, b1, a2, b2, ⟨p4, hp4, hr4⟩, hb4⟩
    have x4 := hb4.box hz3 (by omega) x3
    have B4 := hide (B3.out.trans (hb4.to_below (by omega) (by omega)))
    obtain ⟨c0, c1, f0, f1⟩ := box2 x4
    clear x3 hz3 hr3 hb4 B3 hp3 hp4
    go_wp2
    refine bodyPost_ret (v := .tuple #[.int .i64 n, .agg #[.int .i64 x, .int .i64 y]]) (by simp [results, Try.results28, go_sem, c0, c1]) rfl ⟨n, x, y, rfl, n1, n2, a1, b1, a2, b2, (B4.out.setCell (Nat.le_refl _) _).setCell (Nat.le_refl _) _⟩
end Go.Proofs.Ytmoefeifaiimaaa
