/- Chapter 1: the walks of the laws of the rounding functions, at drawn arguments. -/
import Derived.Test.YtmoefeifaiimaaaMoney1
import Derived.Test.YtmoefeifaiimaaaDraw5
import Derived.Deep.RegionHeld3
namespace Go.Proofs.Ytmoefeifaiimaaa
open Go.ChangeShapes Go.WideShapes Go.ChangeAt Go.RowKit Go.Joins
set_option linter.unusedVariables false

theorem upCases (a q : Int) (hq : 1 ≤ q) : (a % q = 0 ∧ (a + q - 1) / q = a / q) ∨ (0 < a % q ∧ (a + q - 1) / q = a / q + 1) := by
  have k1 := Int.emod_add_mul_ediv a q
  have k2 := Int.emod_nonneg a (b := q) (by omega)
  have k3 := Int.emod_lt_of_pos a (b := q) (by omega)
  generalize a / q = l at *
  generalize a % q = m at *
  by_cases h : m = 0
  · left
    refine ⟨h, ?_⟩
    have e : a + q - 1 = (q - 1) + q * l := by omega
    rw [e, Int.add_mul_ediv_left _ _ (by omega), Int.ediv_eq_zero_of_lt (by omega) (by omega)]; omega
  · right
    refine ⟨by omega, ?_⟩
    have e : a + q - 1 = (m - 1) + q * (l + 1) := by rw [Int.mul_add]; omega
    rw [e, Int.add_mul_ediv_left _ _ (by omega), Int.ediv_eq_zero_of_lt (by omega) (by omega)]; omega

theorem evenCases (n p q : Int) (hq : 1 ≤ q) : (2 * (rnear n p q * q - n * p) = q ∧ rnear n p q % 2 = 1 ∧ reven n p q = rnear n p q - 1) ∨ (2 * (rnear n p q * q - n * p) = q ∧ rnear n p q % 2 = 0 ∧ reven n p q = rnear n p q) ∨
    (2 * (rnear n p q * q - n * p) ≠ q ∧ reven n p q = rnear n p q) := by
  have e1 : 2 * n * p = 2 * (n * p) := Int.mul_assoc 2 n p
  have hh : 2 * (rnear n p q * q - n * p) = q ↔ 2 * n * p % (2 * q) = q := by
    have k1 := Int.emod_add_mul_ediv (2 * n * p + q) (2 * q)
    have k2 : 2 * q * rnear n p q = 2 * (rnear n p q * q) := by rw [Int.mul_assoc, Int.mul_comm q]
    have k3 : (2 * n * p + q) / (2 * q) = rnear n p q := rfl
    rw [k3, k2] at k1
    constructor
    · intro h
      have e : 2 * n * p = q + 2 * q * (rnear n p q - 1) := by rw [Int.mul_sub]; omega
      rw [e, Int.add_mul_emod_self_left]
      exact Int.emod_eq_of_lt (by omega) (by omega)
    · intro h
      have k4 : (2 * n * p + q) % (2 * q) = 0 := by
        rw [Int.add_emod, h, Int.emod_eq_of_lt (a := q) (by omega) (by omega), show q + q = 2 * q by omega, Int.emod_self]
      omega
  by_cases h : 2 * (rnear n p q * q - n * p) = q
  · by_cases h2 : rnear n p q % 2 = 1
    · left
      exact ⟨h, h2, by unfold reven; rw [if_pos ⟨hh.1 h, h2⟩]⟩
    · right; left
      exact ⟨h, by omega, by unfold reven; rw [if_neg (fun x => h2 x.2)]⟩
  · right; right
    exact ⟨h, by unfold reven; rw [if_neg (fun x => h (hh.2 x.1))]⟩

theorem walkFnRoundDown (w : World) (sa : Option Addr) (len cap : Nat) (h : Code w sa len cap) (hl : len ≤ maxLen) :
    Calls Try.prog 5 #[.slice sa len cap] w fun e w' => e = .returned (.bool true) ∧ Below w.heap.size w w' := by
  have hl' := hl
  unfold maxLen at hl'
  by_cases hbig : 1048576 < len
  · clear h hl
    go_enter Try.func5, Try.ntmps5
    go_wp2
    go_ret
    exact ⟨rfl, Below.refl _ _⟩
  · go_enter Try.func5, Try.ntmps5
    go_wp2_with fail
    refine (drawRoundDown_any sa len cap w h hl).mono ?_
    rintro e w1 ⟨n, p, q, rfl, _, _, _, _, _, _, hb⟩
    have B1 := hide hb
    clear hb
    clear h hl
    by_cases hv : VA n ∧ VR p q
    · obtain ⟨ha, hv⟩ := hv
      obtain ⟨m1, m2⟩ := prod_in ha hv
      obtain ⟨v1, v2, v3, v4⟩ := id hv
      obtain ⟨n1, n2⟩ := id ha
      have k1 := Int.emod_add_mul_ediv (n * p) q
      have k2 := Int.emod_nonneg (n * p) (b := q) (by omega)
      have k3 := Int.emod_lt_of_pos (n * p) (b := q) (by omega)
      have k4 : 0 ≤ n * p / q := Int.ediv_nonneg m1 (by omega)
      have k5 : n * p / q ≤ n * p := Int.ediv_le_self _ m1
      obtain ⟨r, hr⟩ : ∃ r, r = n * p / q := ⟨_, rfl⟩
      rw [← hr] at k1 k4 k5
      have j0 : q * r = r * q := Int.mul_comm q r
      have j1 : 0 ≤ r * q := Int.mul_nonneg k4 (by omega)
      have j2 : r * q ≤ n * p := by omega
      have j3 : (r + 1) * q = r * q + q := by rw [Int.add_mul, Int.one_mul]
      have j4 : n * p < (r + 1) * q := by omega
      have j5 : 0 ≤ (r + 1) * q := by omega
      have j6 : (r + 1) * q ≤ 1000001000 := by omega
      have Hr := hide hr
      clear hr k1 k2 k3 j0 j3
      go_wp2_with fail
      refine (implRoundDown_yes n p q _ ha hv).mono ?_
      rintro e w2 ⟨rfl, hb⟩
      have x2 := below_box hb (by simp) (box_new w1 _ _)
      have hz2 : w1.heap.size < w2.heap.size := by have := hb.size; simp at this; omega
      have B2 := hide ((B1.out.alloc B1.out.size _).trans (hb.mono (Nat.le_trans B1.out.size (by simp))))
      clear hb
      obtain ⟨c0, c1, _, _⟩ := box2 x2
      rw [← Hr.out]
      go_wp2_with fail
      refine (specRoundDown_yes n p q _ ha hv).mono ?_
      rintro e w3 ⟨rfl, hb⟩
      have x3 := below_box hb hz2 x2
      have hz3 : w1.heap.size < w3.heap.size := Nat.lt_of_lt_of_le hz2 hb.size
      have B3 := hide (B2.out.trans (hb.mono B2.out.size))
      clear hb x2 hz2 c0 c1
      obtain ⟨c0, c1, _, _⟩ := box2 x3
      rw [← Hr.out]
      go_wp2
      go_ret
      exact ⟨rfl, B3.out⟩
    · go_wp2_with fail
      refine (implRoundDown_no n p q _ hv).mono ?_
      rintro e w2 ⟨rfl, hb⟩
      have x2 := below_box hb (by simp) (box_new w1 _ _)
      have hz2 : w1.heap.size < w2.heap.size := by have := hb.size; simp at this; omega
      have B2 := hide ((B1.out.alloc B1.out.size _).trans (hb.mono (Nat.le_trans B1.out.size (by simp))))
      clear hb
      obtain ⟨c0, c1, _, _⟩ := box2 x2
      go_wp2_with fail
      refine (specRoundDown_no n p q _ hv).mono ?_
      rintro e w3 ⟨rfl, hb⟩
      have x3 := below_box hb hz2 x2
      have hz3 : w1.heap.size < w3.heap.size := Nat.lt_of_lt_of_le hz2 hb.size
      have B3 := hide (B2.out.trans (hb.mono B2.out.size))
      clear hb x2 hz2 c0 c1
      obtain ⟨c0, c1, _, _⟩ := box2 x3
      go_wp2_with fail
      refine (specRoundDown_no n p q _ hv).mono ?_
      rintro e w4 ⟨rfl, hb⟩
      have x4 := below_box hb hz3 x3
      have hz4 : w1.heap.size < w4.heap.size := Nat.lt_of_lt_of_le hz3 hb.size
      have B4 := hide (B3.out.trans (hb.mono B3.out.size))
      clear hb x3 hz3 c0 c1
      obtain ⟨c0, c1, _, _⟩ := box2 x4
      go_wp2
      go_ret
      exact ⟨rfl, B4.out⟩

theorem walkFnRoundUp (w : World) (sa : Option Addr) (len cap : Nat) (h : Code w sa len cap) (hl : len ≤ maxLen) :
    Calls Try.prog 7 #[.slice sa len cap] w fun e w' => e = .returned (.bool true) ∧ Below w.heap.size w w' := by
  have hl' := hl
  unfold maxLen at hl'
  by_cases hbig : 1048576 < len
  · clear h hl
    go_enter Try.func7, Try.ntmps7
    go_wp2
    go_ret
    exact ⟨rfl, Below.refl _ _⟩
  · go_enter Try.func7, Try.ntmps7
    go_wp2_with fail
    refine (drawRoundUp_any sa len cap w h hl).mono ?_
    rintro e w1 ⟨n, p, q, rfl, _, _, _, _, _, _, hb⟩
    have B1 := hide hb
    clear hb
    clear h hl
    by_cases hv : VA n ∧ VR p q
    · obtain ⟨ha, hv⟩ := hv
      obtain ⟨m1, m2⟩ := prod_in ha hv
      obtain ⟨v1, v2, v3, v4⟩ := id hv
      obtain ⟨n1, n2⟩ := id ha
      have g := upCases (n * p) q v1
      have k4 : 0 ≤ n * p / q := Int.ediv_nonneg m1 (by omega)
      have k5 : n * p / q ≤ n * p := Int.ediv_le_self _ m1
      have k6 := Int.emod_nonneg (n * p) (b := q) (by omega)
      obtain ⟨l, hl⟩ : ∃ r, r = n * p / q := ⟨_, rfl⟩
      obtain ⟨r, hr⟩ : ∃ r, r = (n * p + q - 1) / q := ⟨_, rfl⟩
      rw [← hl, ← hr] at g
      rw [← hl] at k4 k5
      have Hr := hide hr
      have Hl := hide hl
      clear hr hl
      go_wp2_with fail
      refine (implRoundUp_yes n p q _ ha hv).mono ?_
      rintro e w2 ⟨rfl, hb⟩
      have x2 := below_box hb (by simp) (box_new w1 _ _)
      have hz2 : w1.heap.size < w2.heap.size := by have := hb.size; simp at this; omega
      have B2 := hide ((B1.out.alloc B1.out.size _).trans (hb.mono (Nat.le_trans B1.out.size (by simp))))
      clear hb
      obtain ⟨c0, c1, _, _⟩ := box2 x2
      rw [← Hr.out]
      go_wp2_with fail
      refine (specRoundUp_yes n p q _ ha hv).mono ?_
      rintro e w3 ⟨rfl, hb⟩
      have x3 := below_box hb hz2 x2
      have hz3 : w1.heap.size < w3.heap.size := Nat.lt_of_lt_of_le hz2 hb.size
      have B3 := hide (B2.out.trans (hb.mono B2.out.size))
      clear hb x2 hz2 c0 c1
      obtain ⟨c0, c1, _, _⟩ := box2 x3
      rw [← Hr.out]
      go_wp2_with fail
      refine (implRoundDown_yes n p q _ ha hv).mono ?_
      rintro e w4 ⟨rfl, hb⟩
      have x4 := below_box hb hz3 x3
      have hz4 : w1.heap.size < w4.heap.size := Nat.lt_of_lt_of_le hz3 hb.size
      have B4 := hide (B3.out.trans (hb.mono B3.out.size))
      clear hb x3 hz3 c0 c1
      obtain ⟨c0, c1, _, _⟩ := box2 x4
      rw [← Hl.out]
      rcases g with ⟨g1, g2⟩ | ⟨g1, g2⟩
      · have e1 : ((n * p % q : Int) == 0) = true := by simp [g1]
        have e2 : ((r : Int) == l) = true := by simp [g2]
        clear g1 g2
        go_wp2
        go_ret
        exact ⟨rfl, B4.out⟩
      · have e1 : ((n * p % q : Int) == 0) = false := by simp; omega
        have e2 : ((r : Int) == l) = false := by simp; omega
        have e3 : ((r : Int) == l + 1) = true := by simp [g2]
        clear g2
        go_wp2
        go_ret
        exact ⟨rfl, B4.out⟩
    · go_wp2_with fail
      refine (implRoundUp_no n p q _ hv).mono ?_
      rintro e w2 ⟨rfl, hb⟩
      have x2 := below_box hb (by simp) (box_new w1 _ _)
      have hz2 : w1.heap.size < w2.heap.size := by have := hb.size; simp at this; omega
      have B2 := hide ((B1.out.alloc B1.out.size _).trans (hb.mono (Nat.le_trans B1.out.size (by simp))))
      clear hb
      obtain ⟨c0, c1, _, _⟩ := box2 x2
      go_wp2_with fail
      refine (specRoundUp_no n p q _ hv).mono ?_
      rintro e w3 ⟨rfl, hb⟩
      have x3 := below_box hb hz2 x2
      have hz3 : w1.heap.size < w3.heap.size := Nat.lt_of_lt_of_le hz2 hb.size
      have B3 := hide (B2.out.trans (hb.mono B2.out.size))
      clear hb x2 hz2 c0 c1
      obtain ⟨c0, c1, _, _⟩ := box2 x3
      go_wp2_with fail
      refine (specRoundUp_no n p q _ hv).mono ?_
      rintro e w4 ⟨rfl, hb⟩
      have x4 := below_box hb hz3 x3
      have hz4 : w1.heap.size < w4.heap.size := Nat.lt_of_lt_of_le hz3 hb.size
      have B4 := hide (B3.out.trans (hb.mono B3.out.size))
      clear hb x3 hz3 c0 c1
      obtain ⟨c0, c1, _, _⟩ := box2 x4
      go_wp2
      go_ret
      exact ⟨rfl, B4.out⟩

theorem walkFnRoundNear (w : World) (sa : Option Addr) (len cap : Nat) (h : Code w sa len cap) (hl : len ≤ maxLen) :
    Calls Try.prog 9 #[.slice sa len cap] w fun e w' => e = .returned (.bool true) ∧ Below w.heap.size w w' := by
  have hl' := hl
  unfold maxLen at hl'
  by_cases hbig : 1048576 < len
  · clear h hl
    go_enter Try.func9, Try.ntmps9
    go_wp2
    go_ret
    exact ⟨rfl, Below.refl _ _⟩
  · go_enter Try.func9, Try.ntmps9
    go_wp2_with fail
    refine (drawRoundNear_any sa len cap w h hl).mono ?_
    rintro e w1 ⟨n, p, q, rfl, _, _, _, _, _, _, hb⟩
    have B1 := hide hb
    clear hb
    clear h hl
    by_cases hv : VA n ∧ VR p q
    · obtain ⟨ha, hv⟩ := hv
      obtain ⟨m1, m2⟩ := prod_in ha hv
      obtain ⟨v1, v2, v3, v4⟩ := id hv
      obtain ⟨n1, n2⟩ := id ha
      have q1 : 0 ≤ 2 * n * p := by rw [Int.mul_assoc]; omega
      have q2 : 2 * n * p ≤ 2000000000 := by rw [Int.mul_assoc]; omega
      have k1 := Int.emod_add_mul_ediv (2 * n * p + q) (2 * q)
      have k2 := Int.emod_nonneg (2 * n * p + q) (b := 2 * q) (by omega)
      have k3 := Int.emod_lt_of_pos (2 * n * p + q) (b := 2 * q) (by omega)
      have hbd := rnear_bd n p q n1 v3 v4 v1
      obtain ⟨r, hr⟩ : ∃ r, r = rnear n p q := ⟨_, rfl⟩
      have hr2 : (2 * n * p + q) / (2 * q) = r := hr.symm
      rw [hr2] at k1
      rw [← hr] at hbd
      have j0 : 2 * q * r = 2 * (r * q) := by rw [Int.mul_assoc, Int.mul_comm q r]
      have j1 : 0 ≤ r * q := Int.mul_nonneg hbd.1 (by omega)
      have j2 : 2 * n * p = 2 * (n * p) := Int.mul_assoc 2 n p
      have j3 : r * q - n * p ≤ 2000000000 := by omega
      have j4 : 2 * (r * q - n * p) ≤ q := by omega
      have j5 : -q < 2 * (r * q - n * p) := by omega
      have j6 : r * q ≤ 2000000000 := by omega
      have Hr := hide hr
      clear hr hr2 j0 j2 k1 k2 k3 q1 q2
      go_wp2_with fail
      refine (implRoundNear_yes n p q _ ha hv).mono ?_
      rintro e w2 ⟨rfl, hb⟩
      have x2 := below_box hb (by simp) (box_new w1 _ _)
      have hz2 : w1.heap.size < w2.heap.size := by have := hb.size; simp at this; omega
      have B2 := hide ((B1.out.alloc B1.out.size _).trans (hb.mono (Nat.le_trans B1.out.size (by simp))))
      clear hb
      obtain ⟨c0, c1, _, _⟩ := box2 x2
      rw [← Hr.out]
      go_wp2_with fail
      refine (specRoundNear_yes n p q _ ha hv).mono ?_
      rintro e w3 ⟨rfl, hb⟩
      have x3 := below_box hb hz2 x2
      have hz3 : w1.heap.size < w3.heap.size := Nat.lt_of_lt_of_le hz2 hb.size
      have B3 := hide (B2.out.trans (hb.mono B2.out.size))
      clear hb x2 hz2 c0 c1
      obtain ⟨c0, c1, _, _⟩ := box2 x3
      rw [← Hr.out]
      go_wp2
      go_ret
      exact ⟨rfl, B3.out⟩
    · go_wp2_with fail
      refine (implRoundNear_no n p q _ hv).mono ?_
      rintro e w2 ⟨rfl, hb⟩
      have x2 := below_box hb (by simp) (box_new w1 _ _)
      have hz2 : w1.heap.size < w2.heap.size := by have := hb.size; simp at this; omega
      have B2 := hide ((B1.out.alloc B1.out.size _).trans (hb.mono (Nat.le_trans B1.out.size (by simp))))
      clear hb
      obtain ⟨c0, c1, _, _⟩ := box2 x2
      go_wp2_with fail
      refine (specRoundNear_no n p q _ hv).mono ?_
      rintro e w3 ⟨rfl, hb⟩
      have x3 := below_box hb hz2 x2
      have hz3 : w1.heap.size < w3.heap.size := Nat.lt_of_lt_of_le hz2 hb.size
      have B3 := hide (B2.out.trans (hb.mono B2.out.size))
      clear hb x2 hz2 c0 c1
      obtain ⟨c0, c1, _, _⟩ := box2 x3
      go_wp2_with fail
      refine (specRoundNear_no n p q _ hv).mono ?_
      rintro e w4 ⟨rfl, hb⟩
      have x4 := below_box hb hz3 x3
      have hz4 : w1.heap.size < w4.heap.size := Nat.lt_of_lt_of_le hz3 hb.size
      have B4 := hide (B3.out.trans (hb.mono B3.out.size))
      clear hb x3 hz3 c0 c1
      obtain ⟨c0, c1, _, _⟩ := box2 x4
      go_wp2
      go_ret
      exact ⟨rfl, B4.out⟩

theorem walkFnRoundEven (w : World) (sa : Option Addr) (len cap : Nat) (h : Code w sa len cap) (hl : len ≤ maxLen) :
    Calls Try.prog 11 #[.slice sa len cap] w fun e w' => e = .returned (.bool true) ∧ Below w.heap.size w w' := by
  have hl' := hl
  unfold maxLen at hl'
  by_cases hbig : 1048576 < len
  · clear h hl
    go_enter Try.func11, Try.ntmps11
    go_wp2
    go_ret
    exact ⟨rfl, Below.refl _ _⟩
  · go_enter Try.func11, Try.ntmps11
    go_wp2_with fail
    refine (drawRoundEven_any sa len cap w h hl).mono ?_
    rintro e w1 ⟨n, p, q, rfl, _, _, _, _, _, _, hb⟩
    have B1 := hide hb
    clear hb
    clear h hl
    by_cases hv : VA n ∧ VR p q
    · obtain ⟨ha, hv⟩ := hv
      obtain ⟨m1, m2⟩ := prod_in ha hv
      obtain ⟨v1, v2, v3, v4⟩ := id hv
      obtain ⟨n1, n2⟩ := id ha
      have hbd := rnear_bd n p q n1 v3 v4 v1
      have g := evenCases n p q v1
      obtain ⟨r, hr⟩ : ∃ r, r = rnear n p q := ⟨_, rfl⟩
      obtain ⟨t, ht⟩ : ∃ t, t = reven n p q := ⟨_, rfl⟩
      have j1 : 0 ≤ r * q := Int.mul_nonneg (by rw [hr]; exact hbd.1) (by omega)
      have j6 : r * q ≤ 1000000000 := by
        calc r * q ≤ 1000000 * q := Int.mul_le_mul_of_nonneg_right (by rw [hr]; omega) (by omega)
          _ ≤ 1000000000 := by omega
      rw [← hr] at hbd g
      rw [← ht] at g
      have Hr := hide hr
      have Ht := hide ht
      clear hr ht
      go_wp2_with fail
      refine (implRoundEven_yes n p q _ ha hv).mono ?_
      rintro e w2 ⟨rfl, hb⟩
      have x2 := below_box hb (by simp) (box_new w1 _ _)
      have hz2 : w1.heap.size < w2.heap.size := by have := hb.size; simp at this; omega
      have B2 := hide ((B1.out.alloc B1.out.size _).trans (hb.mono (Nat.le_trans B1.out.size (by simp))))
      clear hb
      obtain ⟨c0, c1, _, _⟩ := box2 x2
      rw [← Ht.out]
      go_wp2_with fail
      refine (specRoundEven_yes n p q _ ha hv).mono ?_
      rintro e w3 ⟨rfl, hb⟩
      have x3 := below_box hb hz2 x2
      have hz3 : w1.heap.size < w3.heap.size := Nat.lt_of_lt_of_le hz2 hb.size
      have B3 := hide (B2.out.trans (hb.mono B2.out.size))
      clear hb x2 hz2 c0 c1
      obtain ⟨c0, c1, _, _⟩ := box2 x3
      rw [← Ht.out]
      go_wp2_with fail
      refine (implRoundNear_yes n p q _ ha hv).mono ?_
      rintro e w4 ⟨rfl, hb⟩
      have x4 := below_box hb hz3 x3
      have hz4 : w1.heap.size < w4.heap.size := Nat.lt_of_lt_of_le hz3 hb.size
      have B4 := hide (B3.out.trans (hb.mono B3.out.size))
      clear hb x3 hz3 c0 c1
      obtain ⟨c0, c1, _, _⟩ := box2 x4
      rw [← Hr.out]
      rcases g with ⟨g1, g2, g3⟩ | ⟨g1, g2, g3⟩ | ⟨g1, g3⟩
      · have e1 : ((2 * (r * q - n * p) : Int) == q) = true := by simp [g1]
        have e2 : ((r % 2 : Int) == 1) = true := by simp [g2]
        have e3 : ((t : Int) == r) = false := by simp; omega
        have e4 : ((t : Int) == r - 1) = true := by simp [g3]
        clear g1 g2 g3
        go_wp2
        go_ret
        exact ⟨rfl, B4.out⟩
      · have e1 : ((2 * (r * q - n * p) : Int) == q) = true := by simp [g1]
        have e2 : ((r % 2 : Int) == 0) = true := by simp [g2]
        have e3 : ((t : Int) == r) = true := by simp [g3]
        clear g1 g2 g3
        go_wp2
        go_ret
        exact ⟨rfl, B4.out⟩
      · have e1 : ((2 * (r * q - n * p) : Int) == q) = false := by simp [g1]
        have e3 : ((t : Int) == r) = true := by simp [g3]
        clear g1 g3
        go_wp2
        go_ret
        exact ⟨rfl, B4.out⟩
    · go_wp2_with fail
      refine (implRoundEven_no n p q _ hv).mono ?_
      rintro e w2 ⟨rfl, hb⟩
      have x2 := below_box hb (by simp) (box_new w1 _ _)
      have hz2 : w1.heap.size < w2.heap.size := by have := hb.size; simp at this; omega
      have B2 := hide ((B1.out.alloc B1.out.size _).trans (hb.mono (Nat.le_trans B1.out.size (by simp))))
      clear hb
      obtain ⟨c0, c1, _, _⟩ := box2 x2
      go_wp2_with fail
      refine (specRoundEven_no n p q _ hv).mono ?_
      rintro e w3 ⟨rfl, hb⟩
      have x3 := below_box hb hz2 x2
      have hz3 : w1.heap.size < w3.heap.size := Nat.lt_of_lt_of_le hz2 hb.size
      have B3 := hide (B2.out.trans (hb.mono B2.out.size))
      clear hb x2 hz2 c0 c1
      obtain ⟨c0, c1, _, _⟩ := box2 x3
      go_wp2_with fail
      refine (specRoundEven_no n p q _ hv).mono ?_
      rintro e w4 ⟨rfl, hb⟩
      have x4 := below_box hb hz3 x3
      have hz4 : w1.heap.size < w4.heap.size := Nat.lt_of_lt_of_le hz3 hb.size
      have B4 := hide (B3.out.trans (hb.mono B3.out.size))
      clear hb x3 hz3 c0 c1
      obtain ⟨c0, c1, _, _⟩ := box2 x4
      go_wp2
      go_ret
      exact ⟨rfl, B4.out⟩

theorem held_made {w w3 : World} {x : Nat} {a b : Value} {T : TypeId} (c d : Value) (U : TypeId) (h : w3.heap[x]? = some (.cells #[a, b] T (0, 0))) (hz : x < w3.heap.size) (hB : Below w.heap.size w w3) :
    (w3.alloc (.cells #[c, d] U)).heap[x]? = some (.cells #[a, b] T (0, 0)) ∧ (w3.alloc (.cells #[c, d] U)).heap[w3.heap.size]? = some (.cells #[c, d] U (0, 0)) ∧ Below w.heap.size w (w3.alloc (.cells #[c, d] U)) ∧ x < (w3.alloc (.cells #[c, d] U)).heap.size ∧ w3.heap.size < (w3.alloc (.cells #[c, d] U)).heap.size ∧ True :=
  ⟨box_alloc hz h _, box_new _ _ _, hB.alloc hB.size _, by simp; omega, by simp, trivial⟩
theorem held_start {w w' : World} {x y : Nat} {a b c d : Value} {T U : TypeId} (h : w'.heap[x]? = some (.cells #[a, b] T (0, 0)) ∧ w'.heap[y]? = some (.cells #[c, d] U (0, 0)) ∧ Below w.heap.size w w' ∧ x < w'.heap.size ∧ y < w'.heap.size ∧ True) :
    w'.drew.cell? ⟨x, 0, none⟩ = some a ∧ w'.drew.cell? ⟨x, 1, none⟩ = some b ∧ w'.drew.cell? ⟨y, 0, none⟩ = some c ∧ w'.drew.cell? ⟨y, 1, none⟩ = some d ∧ Below w.heap.size w w'.drew ∧ x < w'.drew.heap.size ∧ y < w'.drew.heap.size := by
  obtain ⟨h1, h2, h3, h4, h5, _⟩ := h
  obtain ⟨a1, a2, _, _⟩ := box2 h1
  obtain ⟨b1, b2, _, _⟩ := box2 h2
  exact ⟨a1, a2, b1, b2, h3.drew, h4, h5⟩
theorem held_next {w w' w2 : World} {x y : Nat} {a b c d : Value} (h : w'.cell? ⟨x, 0, none⟩ = some a ∧ w'.cell? ⟨x, 1, none⟩ = some b ∧ w'.cell? ⟨y, 0, none⟩ = some c ∧ w'.cell? ⟨y, 1, none⟩ = some d ∧ Below w.heap.size w w' ∧ x < w'.heap.size ∧ y < w'.heap.size) (hb : Below w'.heap.size w' w2) :
    w2.cell? ⟨x, 0, none⟩ = some a ∧ w2.cell? ⟨x, 1, none⟩ = some b ∧ w2.cell? ⟨y, 0, none⟩ = some c ∧ w2.cell? ⟨y, 1, none⟩ = some d ∧ Below w.heap.size w w2 ∧ x < w2.heap.size ∧ y < w2.heap.size := by
  obtain ⟨h1, h2, h3, h4, h5, h6, h7⟩ := h
  obtain ⟨hc, _⟩ := bcell hb
  exact ⟨(hc _ _ h6).trans h1, (hc _ _ h6).trans h2, (hc _ _ h7).trans h3, (hc _ _ h7).trans h4, h5.trans (hb.mono h5.size), Nat.lt_of_lt_of_le h6 hb.size, Nat.lt_of_lt_of_le h7 hb.size⟩
theorem complement (p q : Int) (hq : 1 ≤ q) : 1234 * p / q + (1234 * (q - p) + q - 1) / q = 1234 := by
  have k1 := Int.emod_add_mul_ediv (1234 * p) q
  have k2 := Int.emod_nonneg (1234 * p) (b := q) (by omega)
  have k3 := Int.emod_lt_of_pos (1234 * p) (b := q) (by omega)
  generalize 1234 * p / q = l at *
  generalize hm : 1234 * p % q = m at *
  have e : 1234 * (q - p) + q - 1 = (q - 1 - m) + q * (1234 - l) := by rw [Int.mul_sub, Int.mul_sub]; omega
  rw [e, Int.add_mul_ediv_left _ _ (by omega), Int.ediv_eq_zero_of_lt (by omega) (by omega)]; omega

theorem walkFnValidRate (w : World) (sa : Option Addr) (len cap : Nat) (h : Code w sa len cap) (hl : len ≤ maxLen) :
    Calls Try.prog 3 #[.slice sa len cap] w fun e w' => e = .returned (.bool true) ∧ Below w.heap.size w w' := by
  have hl' := hl
  unfold maxLen at hl'
  by_cases hbig : 1048576 < len
  · clear h hl
    go_enter Try.func3, Try.ntmps3
    go_wp2
    go_ret
    exact ⟨rfl, Below.refl _ _⟩
  · go_enter Try.func3, Try.ntmps3
    go_wp2_with fail
    refine (drawValidRate_any sa len cap w h hl).mono ?_
    rintro e w1 ⟨p, q, rfl, _, _, _, _, hb⟩
    have B1 := hide hb
    clear hb
    clear h hl
    by_cases hv : VR p q
    · obtain ⟨v1, v2, v3, v4⟩ := id hv
      have hv' : VR (q - p) q := ⟨v1, v2, by omega, by omega⟩
      have hc := complement p q v1
      have k4 : 0 ≤ 1234 * p / q := Int.ediv_nonneg (by omega) (by omega)
      have k5 : 1234 * p / q ≤ 1234 * p := Int.ediv_le_self _ (by omega)
      obtain ⟨l, hl⟩ : ∃ r, r = 1234 * p / q := ⟨_, rfl⟩
      obtain ⟨r, hr⟩ : ∃ r, r = (1234 * (q - p) + q - 1) / q := ⟨_, rfl⟩
      rw [← hl, ← hr] at hc
      rw [← hl] at k4 k5
      have Hr := hide hr
      have Hl := hide hl
      have Hc := hide hc
      clear hr hl hc
      go_wp2_with fail
      refine (implValidRate_yes p q _ hv).mono ?_
      rintro e w2 ⟨rfl, hb⟩
      have x2 := below_box hb (by simp) (box_new w1 _ _)
      have hz2 : w1.heap.size < w2.heap.size := by have := hb.size; simp at this; omega
      have B2 := hide ((B1.out.alloc B1.out.size _).trans (hb.mono (Nat.le_trans B1.out.size (by simp))))
      clear hb
      obtain ⟨c0, c1, _, _⟩ := box2 x2
      go_wp2_with fail
      refine (specValidRate_yes p q _ hv).mono ?_
      rintro e w3 ⟨rfl, hb⟩
      have x3 := below_box hb hz2 x2
      have hz3 : w1.heap.size < w3.heap.size := Nat.lt_of_lt_of_le hz2 hb.size
      have B3 := hide (B2.out.trans (hb.mono B2.out.size))
      clear hb x2 hz2 c0 c1
      obtain ⟨c0, c1, _, _⟩ := box2 x3
      go_wp2_with fail
      have S0 := hide (held_made (.int .i64 (q - p)) (.int .i64 q) 24 x3 hz3 B3.out)
      clear x3 c0 c1 B3
      go_region_held3 (fun w' => w'.cell? ⟨w1.heap.size, 0, none⟩ = some (.int .i64 p) ∧ w'.cell? ⟨w1.heap.size, 1, none⟩ = some (.int .i64 q) ∧ w'.cell? ⟨w3.heap.size, 0, none⟩ = some (.int .i64 (q - p)) ∧ w'.cell? ⟨w3.heap.size, 1, none⟩ = some (.int .i64 q) ∧
          Below w.heap.size w w' ∧ w1.heap.size < w'.heap.size ∧ w3.heap.size < w'.heap.size)
        (first | exact held_start S0.out | exact held_next (by assumption) hb)
        (first | (go_at_call 16; refine (implValidRate_yes (q - p) q _ hv').mono ?_; rintro e w4 ⟨rfl, hb⟩) | (go_at_call 18; refine (implRoundDown_yes 1234 p q _ ⟨by omega, by omega⟩ hv).mono ?_; rintro e w5 ⟨rfl, hb⟩) | (go_at_call 19; refine (implRoundUp_yes 1234 (q - p) q _ ⟨by omega, by omega⟩ hv').mono ?_; rintro e w6 ⟨rfl, hb⟩))
      rename_i hh
      have hB := hide hh.2.2.2.2.1
      clear hh
      rw [← Hl.out, ← Hr.out, Hc.out]
      go_wp2
      go_ret
      exact ⟨ret_bool (by decide), hB.out⟩
    · go_wp2_with fail
      refine (implValidRate_no p q _ hv).mono ?_
      rintro e w2 ⟨rfl, hb⟩
      have x2 := below_box hb (by simp) (box_new w1 _ _)
      have hz2 : w1.heap.size < w2.heap.size := by have := hb.size; simp at this; omega
      have B2 := hide ((B1.out.alloc B1.out.size _).trans (hb.mono (Nat.le_trans B1.out.size (by simp))))
      clear hb
      obtain ⟨c0, c1, _, _⟩ := box2 x2
      go_wp2_with fail
      refine (specValidRate_no p q _ hv).mono ?_
      rintro e w3 ⟨rfl, hb⟩
      have x3 := below_box hb hz2 x2
      have hz3 : w1.heap.size < w3.heap.size := Nat.lt_of_lt_of_le hz2 hb.size
      have B3 := hide (B2.out.trans (hb.mono B2.out.size))
      clear hb x2 hz2 c0 c1
      obtain ⟨c0, c1, _, _⟩ := box2 x3
      go_wp2_with fail
      refine (specValidRate_no p q _ hv).mono ?_
      rintro e w4 ⟨rfl, hb⟩
      have x4 := below_box hb hz3 x3
      have hz4 : w1.heap.size < w4.heap.size := Nat.lt_of_lt_of_le hz3 hb.size
      have B4 := hide (B3.out.trans (hb.mono B3.out.size))
      clear hb x3 hz3 c0 c1
      obtain ⟨c0, c1, _, _⟩ := box2 x4
      go_wp2
      go_ret
      exact ⟨rfl, B4.out⟩
end Go.Proofs.Ytmoefeifaiimaaa
