/- The generator's amounts and rates. -/
import Derived.Test.YtjdfdikifiljjabDraw2
namespace Go.Proofs.Ytjdfdikifiljjab
open Go.ChangeShapes Go.WideShapes Go.ChangeAt Go.RowKit Go.Joins
set_option linter.unusedVariables false

/-- an amount in the range -1 .. 1000001; at most three picks -/
def AmtRes (B g p : Nat) (w : World) (e : Ending) (w' : World) : Prop :=
  ∃ v : Int, e = .returned (.int .i64 v) ∧ -1 ≤ v ∧ v ≤ 1000001 ∧ (∃ p', p' ≤ p + 3 ∧ Rdr B w' g p') ∧ But g w w'

/-- a rate that is some pair of small numbers; at most n picks -/
def RateRes (B g p n : Nat) (w : World) (e : Ending) (w' : World) : Prop :=
  ∃ x y : Int, e = .returned (.agg #[.int .i64 x, .int .i64 y]) ∧ -1 ≤ x ∧ x ≤ 1001 ∧ 0 ≤ y ∧ y ≤ 1001 ∧ (∃ p', p' ≤ p + n ∧ Rdr B w' g p') ∧ But g w w'

theorem anAmount_any (B g p : Nat) (w : World) (h : Rdr B w g p) (hp : p < 900000) :
    Calls Try.prog 86 #[.pointer (some ⟨g, 0, none⟩)] w (AmtRes B g p w) := by
  go_enter Try.func86, Try.ntmps86
  go_wp2_with fail
  refine (pick_pos B g p _ w h (by omega) (by omega)).mono ?_
  rintro e w1 ⟨v1, rfl, a1, b1, hr1, hb1, hs1⟩
  clear hs1
  go_wp2_with fail
  refine (pick_pos B g _ _ w1 hr1 (by omega) (by omega)).mono ?_
  rintro e w2 ⟨v2, rfl, a2, b2, hr2, hb2, hs2⟩
  clear hs2
  go_wp2_with fail
  refine (one_new B g (p + 1 + 1) [1000, 10 * v1, v2, 0, 12345, 1000000, 999999, -1, 1000001, 25, 90909, 50] (-1) 1000001 _ w2 hr2 (by omega) (by simp) (by simp) (by first | omega | (simp; done) | (simp; omega))).mono ?_
  rintro e w3 ⟨v, rfl, a3, b3, hr3, hb3, hs3⟩
  clear hs3
  go_wp2
  go_ret
  exact ⟨v, rfl, a3, b3, ⟨_, by omega, hr3⟩, (hb1.trans hb2).trans ((But.of_below ((Below.refl _ _).alloc (Nat.le_refl _) _)).trans hb3)⟩

set_option maxHeartbeats 1000000 in
theorem someRate_any (B g p : Nat) (w : World) (h : Rdr B w g p) (hp : p < 900000) :
    Calls Try.prog 106 #[.pointer (some ⟨g, 0, none⟩)] w (fun e w' => ∃ x y : Int, e = .returned (.agg #[.int .i64 x, .int .i64 y]) ∧ 0 ≤ x ∧ x ≤ 1000 ∧ 1 ≤ y ∧ y ≤ 1000 ∧ (∃ p', p' ≤ p + 4 ∧ Rdr B w' g p') ∧ But g w w') := by
  have hg := h.2.1
  have hne : w.heap.size ≠ g := by omega
  have hB := h.1
  go_enter Try.func106, Try.ntmps106
  go_wp2_with fail
  refine (pick_pos B g p _ _ (h.keep ((Below.refl _ _).alloc (Nat.le_refl _) _)) (by omega) (by omega)).mono ?_
  rintro e w1 ⟨v1, rfl, a1, b1, hr1, hb1, hs1⟩
  have x1 := hb1.box (by simp) hne (box_new _ _ _)
  have hz1 : w.heap.size < w1.heap.size := by rw [hs1]; simp
  have B1 := hide ((But.of_below (g := g) ((Below.refl _ _).alloc (Nat.le_refl _) _)).trans hb1)
  clear hs1 hb1
  go_wp2_with fail
  refine (one_new B g (p + 1) [100, 12, 2, 4, 1000, 8, 1, 365, 1 + v1] 1 1000 _ w1 hr1 (by omega) (by simp) (by simp) (by first | omega | (simp; done) | (simp; omega))).mono ?_
  rintro e w2 ⟨d, rfl, a2, b2, hr2, hb2, hs2⟩
  have x2 := hb2.box (by first | omega | (simp; done) | (simp; omega)) hne (box_alloc hz1 x1 _)
  have hz2 : w.heap.size < w2.heap.size := by rw [hs2]; simp; omega
  have B2 := hide (B1.out.trans ((But.of_below (g := g) ((Below.refl _ _).alloc (Nat.le_refl _) _)).trans hb2))
  clear hs2 hb2 x1 hz1 B1 hr1
  go_wp2_with fail
  all_goals
    refine (pick_pos B g _ _ w2 hr2 (by omega) (by omega)).mono ?_
    rintro e w3 ⟨v3, rfl, a3, b3, hr3, hb3, hs3⟩
    have x3 := hb3.box hz2 hne x2
    have hz3 : w.heap.size < w3.heap.size := by rw [hs3]; exact hz2
    have B3 := hide (B2.out.trans hb3)
    clear hs3 hb3 x2 hz2 B2 hr2
    go_wp2_with fail
    all_goals
      refine (one_new B g _ [1, 0, _, d, v3, _] 0 1000 _ w3 hr3 (by omega) (by simp) (by simp) (by first | omega | (simp; done) | (simp; omega))).mono ?_
      rintro e w4 ⟨v4, rfl, a4, b4, hr4, hb4, hs4⟩
      have x4 := hb4.box (by first | omega | (simp; done) | (simp; omega)) hne (box_alloc hz3 x3 _)
      have hz4 : w.heap.size < w4.heap.size := by rw [hs4]; simp; omega
      have B4 := hide (B3.out.trans ((But.of_below (g := g) ((Below.refl _ _).alloc (Nat.le_refl _) _)).trans hb4))
      obtain ⟨c0, c1, f0, f1⟩ := box2 x4
      clear hs4 hb4 x3 hz3 B3 hr3
      go_wp2
      refine bodyPost_ret (v := .agg #[.int .i64 v4, .int .i64 d]) (by simp [results, Try.results106, go_sem, c0, c1]) rfl ⟨v4, d, rfl, a4, b4, a2, b2, ⟨_, by omega, (hr4.put _ _ _ hne (by omega)).put _ _ _ hne (by omega)⟩, (B4.out.put _ _ _ (Nat.le_refl _)).put _ _ _ (Nat.le_refl _)⟩

set_option maxHeartbeats 1000000 in
theorem anyRate_any (B g p : Nat) (w : World) (h : Rdr B w g p) (hp : p < 800000) :
    Calls Try.prog 87 #[.pointer (some ⟨g, 0, none⟩)] w (RateRes B g p 6 w) := by
  have hg := h.2.1
  have hne : w.heap.size ≠ g := by omega
  have hB := h.1
  go_enter Try.func87, Try.ntmps87
  go_wp2_with fail
  refine (someRate_any B g p _ (h.keep ((Below.refl _ _).alloc (Nat.le_refl _) _)) (by omega)).mono ?_
  rintro e w1 ⟨x, y, rfl, a1, b1, a2, b2, ⟨p1, hp1, hr1⟩, hb1⟩
  have x1 := hb1.box (by simp) hne (box_new _ _ _)
  have hz1 : w.heap.size < w1.heap.size := by have := hb1.size; simp at this; omega
  have B1 := hide ((But.of_below (g := g) ((Below.refl _ _).alloc (Nat.le_refl _) _)).trans hb1)
  clear hb1
  go_wp2_with fail
  refine (pick_pos B g p1 _ _ (hr1.keep ((Below.refl _ _).alloc (Nat.le_refl _) _)) (by omega) (by omega)).mono ?_
  rintro e w2 ⟨v2, rfl, a3, b3, hr2, hb2, hs2⟩
  have hz2 : w.heap.size < w2.heap.size ∧ w1.heap.size < w2.heap.size := by rw [hs2]; simp; omega
  have x2 := hb2.box (by first | omega | (simp; done) | (simp; omega)) hne (box_alloc hz1 x1 _)
  have y2 := hb2.box (by first | omega | (simp; done) | (simp; omega)) (by omega) (box_new _ _ _)
  have B2 := hide (B1.out.trans ((But.of_below (g := g) ((Below.refl _ _).alloc (Nat.le_refl _) _)).trans hb2))
  have hg1 : w1.heap.size ≠ g := by omega
  have hww : w.heap.size ≠ w1.heap.size := by omega
  obtain ⟨hz2, hz3⟩ := hz2
  clear hs2 hb2 hr1 x1 B1
  by_cases h0 : v2 = 0
  · subst h0
    obtain ⟨d0, d1, e0, e1⟩ := box2 y2
    go_wp2_with fail
    refine (one_new B g _ [-1, y + 1] (-1) 1001 _ w2 hr2 (by omega) (by simp) (by simp) (by simp; omega)).mono ?_
    rintro e w3 ⟨v3, rfl, a4, b4, hr3, hb3, hs3⟩
    have x3 := hb3.box (by simp; omega) hne (box_alloc hz2 x2 _)
    have y3 := hb3.box (by simp; omega) hg1 (box_alloc hz3 y2 _)
    have B3 := hide (B2.out.trans ((But.of_below (g := g) ((Below.refl _ _).alloc (Nat.le_refl _) _)).trans hb3))
    obtain ⟨c0, c1, f0, f1⟩ := box2 x3
    clear d0 d1 e0 e1
    obtain ⟨d0, d1, e0, e1⟩ := box2 y3
    clear hs3 hb3 x2 y2 B2 hr2
    go_wp2
    refine bodyPost_ret (v := .agg #[.int .i64 v3, .int .i64 y]) (by simp [results, Try.results87, go_sem, c0, c1]) rfl ⟨v3, y, rfl, a4, b4, by omega, by omega, ⟨_, ?_, ((hr3.put _ _ _ hg1 (by omega)).put _ _ _ hne (by omega)).put _ _ _ hne (by omega)⟩, ((B3.out.put _ _ _ (by omega)).put _ _ _ (Nat.le_refl _)).put _ _ _ (Nat.le_refl _)⟩
    omega
  · have hb0 : (v2 == 0) = false := by simp [h0]
    by_cases h1 : v2 = 1
    · subst h1
      obtain ⟨d0, d1, e0, e1⟩ := box2 y2
      go_wp2_with fail
      refine (one_new B g _ [0, 1001] 0 1001 _ w2 hr2 (by omega) (by simp) (by simp) (by simp)).mono ?_
      rintro e w3 ⟨v3, rfl, a4, b4, hr3, hb3, hs3⟩
      have x3 := hb3.box (by simp; omega) hne (box_alloc hz2 x2 _)
      have y3 := hb3.box (by simp; omega) hg1 (box_alloc hz3 y2 _)
      have B3 := hide (B2.out.trans ((But.of_below (g := g) ((Below.refl _ _).alloc (Nat.le_refl _) _)).trans hb3))
      obtain ⟨c0, c1, f0, f1⟩ := box2 x3
      clear d0 d1 e0 e1
      obtain ⟨d0, d1, e0, e1⟩ := box2 y3
      clear hs3 hb3 x2 y2 B2 hr2
      go_wp2
      refine bodyPost_ret (v := .agg #[.int .i64 x, .int .i64 v3]) (by simp [results, Try.results87, go_sem, c0, c1]) rfl ⟨x, v3, rfl, by omega, by omega, a4, b4, ⟨_, ?_, ((hr3.put _ _ _ hg1 (by omega)).put _ _ _ hne (by omega)).put _ _ _ hne (by omega)⟩, ((B3.out.put _ _ _ (by omega)).put _ _ _ (Nat.le_refl _)).put _ _ _ (Nat.le_refl _)⟩
      omega
    · have hb1 : (v2 == 1) = false := by simp [h1]
      obtain ⟨c0, c1, f0, f1⟩ := box2 x2
      obtain ⟨d0, d1, e0, e1⟩ := box2 y2
      go_wp2
      refine bodyPost_ret (v := .agg #[.int .i64 x, .int .i64 y]) (by simp [results, Try.results87, go_sem, c0, c1]) rfl ⟨x, y, rfl, by omega, by omega, by omega, by omega, ⟨_, ?_, (hr2.put _ _ _ hne (by omega)).put _ _ _ hne (by omega)⟩, (B2.out.put _ _ _ (Nat.le_refl _)).put _ _ _ (Nat.le_refl _)⟩
      omega
end Go.Proofs.Ytjdfdikifiljjab
