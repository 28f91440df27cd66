/- Chapter 1's rounding: the contracts of the program's functions and of the model's. -/
import Derived.Test.YtjdfdikifiljjabDraw1
import Derived.Test.YtjdfdikifiljjabPure1
namespace Go.Proofs.Ytjdfdikifiljjab
open Go.ChangeShapes Go.WideShapes Go.ChangeAt Go.RowKit Go.Joins
set_option linter.unusedVariables false

/-- a valid rate -/
def VR (p q : Int) : Prop := 1 ≤ q ∧ q ≤ 1000 ∧ 0 ≤ p ∧ p ≤ q
/-- an amount -/
def VA (n : Int) : Prop := 0 ≤ n ∧ n ≤ 1000000
instance (p q : Int) : Decidable (VR p q) := by unfold VR; infer_instance
instance (n : Int) : Decidable (VA n) := by unfold VA; infer_instance


/-- what a function of a rate answers: it makes new memory at the most -/
def RetBool (b : Bool) (w : World) (e : Ending) (w' : World) : Prop := e = .returned (.bool b) ∧ Below w.heap.size w w'
def RetInt (n : Int) (w : World) (e : Ending) (w' : World) : Prop := e = .returned (.int .i64 n) ∧ Below w.heap.size w w'

theorem prod_in {n p q : Int} (hn : VA n) (hv : VR p q) : 0 ≤ n * p ∧ n * p ≤ 1000000000 := by
  obtain ⟨h1, h2⟩ := hn
  obtain ⟨h3, h4, h5, h6⟩ := hv
  refine ⟨Int.mul_nonneg h1 h5, ?_⟩
  calc n * p ≤ 1000000 * p := Int.mul_le_mul_of_nonneg_right h2 h5
    _ ≤ 1000000000 := by omega

theorem implInRange_yes (a lo hi : Int) (w : World) (h1 : lo ≤ a) (h2 : a ≤ hi) : Calls Try.prog 85 #[.int .i64 a, .int .i64 lo, .int .i64 hi] w fun e w' => e = .returned (.bool true) ∧ w = w' := by
  go_enter Try.func85, Try.ntmps85
  go_wp2
  go_ret
  exact ⟨ret_bool (by first | omega | (simp; done) | (simp; omega)), rfl⟩
theorem implInRange_no (a lo hi : Int) (w : World) (h : ¬ (lo ≤ a ∧ a ≤ hi)) : Calls Try.prog 85 #[.int .i64 a, .int .i64 lo, .int .i64 hi] w fun e w' => e = .returned (.bool false) ∧ w = w' := by
  by_cases h1 : lo ≤ a
  · have h2 : hi < a := by omega
    go_enter Try.func85, Try.ntmps85
    go_wp2
    go_ret
    exact ⟨ret_bool (by first | omega | (simp; done) | (simp; omega)), rfl⟩
  · have h2 : a < lo := by omega
    go_enter Try.func85, Try.ntmps85
    go_wp2
    go_ret
    exact ⟨rfl, rfl⟩


theorem specInRange_yes (a lo hi : Int) (w : World) (h1 : lo ≤ a) (h2 : a ≤ hi) : Calls Try.prog 94 #[.int .i64 a, .int .i64 lo, .int .i64 hi] w fun e w' => e = .returned (.bool true) ∧ w = w' := by
  go_enter Try.func94, Try.ntmps94
  go_wp2
  go_ret
  exact ⟨ret_bool (by first | omega | (simp; done) | (simp; omega)), rfl⟩
theorem specInRange_no (a lo hi : Int) (w : World) (h : ¬ (lo ≤ a ∧ a ≤ hi)) : Calls Try.prog 94 #[.int .i64 a, .int .i64 lo, .int .i64 hi] w fun e w' => e = .returned (.bool false) ∧ w = w' := by
  by_cases h1 : lo ≤ a
  · have h2 : hi < a := by omega
    go_enter Try.func94, Try.ntmps94
    go_wp2
    go_ret
    exact ⟨ret_bool (by first | omega | (simp; done) | (simp; omega)), rfl⟩
  · have h2 : a < lo := by omega
    go_enter Try.func94, Try.ntmps94
    go_wp2
    go_ret
    exact ⟨rfl, rfl⟩


theorem implAmt_yes (a : Int) (w : World) (h : VA a) : Calls Try.prog 89 #[.int .i64 a] w fun e w' => e = .returned (.bool true) ∧ w = w' := by
  go_enter Try.func89, Try.ntmps89
  go_wp2_with fail
  refine (implInRange_yes _ _ _ _ h.1 h.2).mono ?_
  rintro e w' ⟨rfl, rfl⟩
  go_wp2
  go_ret
  exact ⟨rfl, rfl⟩
theorem implAmt_no (a : Int) (w : World) (h : ¬ VA a) : Calls Try.prog 89 #[.int .i64 a] w fun e w' => e = .returned (.bool false) ∧ w = w' := by
  go_enter Try.func89, Try.ntmps89
  go_wp2_with fail
  refine (implInRange_no _ _ _ _ h).mono ?_
  rintro e w' ⟨rfl, rfl⟩
  go_wp2
  go_ret
  exact ⟨rfl, rfl⟩


theorem specAmt_yes (a : Int) (w : World) (h : VA a) : Calls Try.prog 92 #[.int .i64 a] w fun e w' => e = .returned (.bool true) ∧ w = w' := by
  go_enter Try.func92, Try.ntmps92
  go_wp2_with fail
  refine (specInRange_yes _ _ _ _ h.1 h.2).mono ?_
  rintro e w' ⟨rfl, rfl⟩
  go_wp2
  go_ret
  exact ⟨rfl, rfl⟩
theorem specAmt_no (a : Int) (w : World) (h : ¬ VA a) : Calls Try.prog 92 #[.int .i64 a] w fun e w' => e = .returned (.bool false) ∧ w = w' := by
  go_enter Try.func92, Try.ntmps92
  go_wp2_with fail
  refine (specInRange_no _ _ _ _ h).mono ?_
  rintro e w' ⟨rfl, rfl⟩
  go_wp2
  go_ret
  exact ⟨rfl, rfl⟩


theorem implValidRate_yes (p q : Int) (w : World) (hv : VR p q) : Calls Try.prog 90 #[.agg #[.int .i64 p, .int .i64 q]] w (RetBool true w) := by
  obtain ⟨h1, h2, h3, h4⟩ := hv
  · go_enter Try.func90, Try.ntmps90
    go_wp2
    go_ret
    refine ⟨rfl, ?_⟩
    repeat (first | exact Below.refl _ _ | assumption | refine Below.alloc ?_ (by first | exact Nat.le_refl _ | omega | (simp; done) | (simp; omega)) _ | refine Below.setCell ?_ (by first | exact Nat.le_refl _ | omega | (simp; done) | (simp; omega)) _ | refine Below.drew ?_ | refine below_draw ?_ | refine Below.trans ?_ (Below.mono (by assumption) (by first | exact Nat.le_refl _ | omega | (simp; done) | (simp; omega))))
theorem implValidRate_no (p q : Int) (w : World) (hv : ¬ VR p q) : Calls Try.prog 90 #[.agg #[.int .i64 p, .int .i64 q]] w (RetBool false w) := by
  by_cases h1 : 1 ≤ q
  · by_cases h2 : q ≤ 1000
    · by_cases h3 : 0 ≤ p
      · have h4 : q < p := by
          unfold VR at hv; omega
        clear hv
        go_enter Try.func90, Try.ntmps90
        go_wp2
        go_ret
        refine ⟨ret_bool (decide_eq_false (by omega)), ?_⟩
        repeat (first | exact Below.refl _ _ | assumption | refine Below.alloc ?_ (by first | exact Nat.le_refl _ | omega | (simp; done) | (simp; omega)) _ | refine Below.setCell ?_ (by first | exact Nat.le_refl _ | omega | (simp; done) | (simp; omega)) _ | refine Below.drew ?_ | refine below_draw ?_ | refine Below.trans ?_ (Below.mono (by assumption) (by first | exact Nat.le_refl _ | omega | (simp; done) | (simp; omega))))
      · clear hv
        go_enter Try.func90, Try.ntmps90
        go_wp2
        go_ret
        refine ⟨rfl, ?_⟩
        repeat (first | exact Below.refl _ _ | assumption | refine Below.alloc ?_ (by first | exact Nat.le_refl _ | omega | (simp; done) | (simp; omega)) _ | refine Below.setCell ?_ (by first | exact Nat.le_refl _ | omega | (simp; done) | (simp; omega)) _ | refine Below.drew ?_ | refine below_draw ?_ | refine Below.trans ?_ (Below.mono (by assumption) (by first | exact Nat.le_refl _ | omega | (simp; done) | (simp; omega))))
    · clear hv
      go_enter Try.func90, Try.ntmps90
      go_wp2
      go_ret
      refine ⟨rfl, ?_⟩
      repeat (first | exact Below.refl _ _ | assumption | refine Below.alloc ?_ (by first | exact Nat.le_refl _ | omega | (simp; done) | (simp; omega)) _ | refine Below.setCell ?_ (by first | exact Nat.le_refl _ | omega | (simp; done) | (simp; omega)) _ | refine Below.drew ?_ | refine below_draw ?_ | refine Below.trans ?_ (Below.mono (by assumption) (by first | exact Nat.le_refl _ | omega | (simp; done) | (simp; omega))))
  · clear hv
    go_enter Try.func90, Try.ntmps90
    go_wp2
    go_ret
    refine ⟨rfl, ?_⟩
    repeat (first | exact Below.refl _ _ | assumption | refine Below.alloc ?_ (by first | exact Nat.le_refl _ | omega | (simp; done) | (simp; omega)) _ | refine Below.setCell ?_ (by first | exact Nat.le_refl _ | omega | (simp; done) | (simp; omega)) _ | refine Below.drew ?_ | refine below_draw ?_ | refine Below.trans ?_ (Below.mono (by assumption) (by first | exact Nat.le_refl _ | omega | (simp; done) | (simp; omega))))



theorem specvRate_yes (p q : Int) (w : World) (hv : VR p q) : Calls Try.prog 93 #[.agg #[.int .i64 p, .int .i64 q]] w (RetBool true w) := by
  obtain ⟨h1, h2, h3, h4⟩ := hv
  · go_enter Try.func93, Try.ntmps93
    go_wp2
    go_ret
    refine ⟨rfl, ?_⟩
    repeat (first | exact Below.refl _ _ | assumption | refine Below.alloc ?_ (by first | exact Nat.le_refl _ | omega | (simp; done) | (simp; omega)) _ | refine Below.setCell ?_ (by first | exact Nat.le_refl _ | omega | (simp; done) | (simp; omega)) _ | refine Below.drew ?_ | refine below_draw ?_ | refine Below.trans ?_ (Below.mono (by assumption) (by first | exact Nat.le_refl _ | omega | (simp; done) | (simp; omega))))
theorem specvRate_no (p q : Int) (w : World) (hv : ¬ VR p q) : Calls Try.prog 93 #[.agg #[.int .i64 p, .int .i64 q]] w (RetBool false w) := by
  by_cases h1 : 1 ≤ q
  · by_cases h2 : q ≤ 1000
    · by_cases h3 : 0 ≤ p
      · have h4 : q < p := by
          unfold VR at hv; omega
        clear hv
        go_enter Try.func93, Try.ntmps93
        go_wp2
        go_ret
        refine ⟨ret_bool (decide_eq_false (by omega)), ?_⟩
        repeat (first | exact Below.refl _ _ | assumption | refine Below.alloc ?_ (by first | exact Nat.le_refl _ | omega | (simp; done) | (simp; omega)) _ | refine Below.setCell ?_ (by first | exact Nat.le_refl _ | omega | (simp; done) | (simp; omega)) _ | refine Below.drew ?_ | refine below_draw ?_ | refine Below.trans ?_ (Below.mono (by assumption) (by first | exact Nat.le_refl _ | omega | (simp; done) | (simp; omega))))
      · clear hv
        go_enter Try.func93, Try.ntmps93
        go_wp2
        go_ret
        refine ⟨rfl, ?_⟩
        repeat (first | exact Below.refl _ _ | assumption | refine Below.alloc ?_ (by first | exact Nat.le_refl _ | omega | (simp; done) | (simp; omega)) _ | refine Below.setCell ?_ (by first | exact Nat.le_refl _ | omega | (simp; done) | (simp; omega)) _ | refine Below.drew ?_ | refine below_draw ?_ | refine Below.trans ?_ (Below.mono (by assumption) (by first | exact Nat.le_refl _ | omega | (simp; done) | (simp; omega))))
    · clear hv
      go_enter Try.func93, Try.ntmps93
      go_wp2
      go_ret
      refine ⟨rfl, ?_⟩
      repeat (first | exact Below.refl _ _ | assumption | refine Below.alloc ?_ (by first | exact Nat.le_refl _ | omega | (simp; done) | (simp; omega)) _ | refine Below.setCell ?_ (by first | exact Nat.le_refl _ | omega | (simp; done) | (simp; omega)) _ | refine Below.drew ?_ | refine below_draw ?_ | refine Below.trans ?_ (Below.mono (by assumption) (by first | exact Nat.le_refl _ | omega | (simp; done) | (simp; omega))))
  · clear hv
    go_enter Try.func93, Try.ntmps93
    go_wp2
    go_ret
    refine ⟨rfl, ?_⟩
    repeat (first | exact Below.refl _ _ | assumption | refine Below.alloc ?_ (by first | exact Nat.le_refl _ | omega | (simp; done) | (simp; omega)) _ | refine Below.setCell ?_ (by first | exact Nat.le_refl _ | omega | (simp; done) | (simp; omega)) _ | refine Below.drew ?_ | refine below_draw ?_ | refine Below.trans ?_ (Below.mono (by assumption) (by first | exact Nat.le_refl _ | omega | (simp; done) | (simp; omega))))






theorem implRoundNear_yes (n p q : Int) (w : World) (hn : VA n) (hv : VR p q) : Calls Try.prog 107 #[.int .i64 n, .agg #[.int .i64 p, .int .i64 q]] w (RetInt (rnear n p q) w) := by
  obtain ⟨m1, m2⟩ := prod_in hn hv
  obtain ⟨n1, n2⟩ := hn
  obtain ⟨v1, v2, v3, v4⟩ := id hv
  have q1 : 0 ≤ 2 * n * p := by rw [Int.mul_assoc]; omega
  have q2 : 2 * n * p ≤ 2000000000 := by rw [Int.mul_assoc]; omega
  unfold rnear
  go_enter Try.func107, Try.ntmps107
  go_wp2_with (first | (go_at_call 89; go_in) | (go_at_call 85; go_in))
  refine (implValidRate_yes p q _ hv).mono ?_
  rintro e w1 ⟨rfl, hb⟩
  have x1 := below_box hb (by simp) (box_new w _ _)
  obtain ⟨c0, c1, _, _⟩ := box2 x1
  have B1 := hide (((Below.refl _ _).alloc (Nat.le_refl _) _).trans (hb.mono (by simp)))
  clear hb x1
  go_wp2
  go_ret
  exact ⟨rfl, B1.out⟩
theorem implRoundNear_no (n p q : Int) (w : World) (h : ¬ (VA n ∧ VR p q)) : Calls Try.prog 107 #[.int .i64 n, .agg #[.int .i64 p, .int .i64 q]] w (RetInt (-1) w) := by
  by_cases n1 : 0 ≤ n
  · by_cases n2 : n ≤ 1000000
    · have hv : ¬ VR p q := fun hv => h ⟨⟨n1, n2⟩, hv⟩
      clear h
      go_enter Try.func107, Try.ntmps107
      go_wp2_with (first | (go_at_call 89; go_in) | (go_at_call 85; go_in))
      refine (implValidRate_no p q _ hv).mono ?_
      rintro e w1 ⟨rfl, hb⟩
      have x1 := below_box hb (by simp) (box_new w _ _)
      obtain ⟨c0, c1, _, _⟩ := box2 x1
      have B1 := hide (((Below.refl _ _).alloc (Nat.le_refl _) _).trans (hb.mono (by simp)))
      clear hb x1
      go_wp2
      go_ret
      exact ⟨rfl, B1.out⟩
    · clear h
      go_enter Try.func107, Try.ntmps107
      go_wp2
      go_ret
      refine ⟨rfl, ?_⟩
      repeat (first | exact Below.refl _ _ | assumption | refine Below.alloc ?_ (by first | exact Nat.le_refl _ | omega | (simp; done) | (simp; omega)) _ | refine Below.setCell ?_ (by first | exact Nat.le_refl _ | omega | (simp; done) | (simp; omega)) _ | refine Below.drew ?_ | refine below_draw ?_ | refine Below.trans ?_ (Below.mono (by assumption) (by first | exact Nat.le_refl _ | omega | (simp; done) | (simp; omega))))
  · clear h
    go_enter Try.func107, Try.ntmps107
    go_wp2
    go_ret
    refine ⟨rfl, ?_⟩
    repeat (first | exact Below.refl _ _ | assumption | refine Below.alloc ?_ (by first | exact Nat.le_refl _ | omega | (simp; done) | (simp; omega)) _ | refine Below.setCell ?_ (by first | exact Nat.le_refl _ | omega | (simp; done) | (simp; omega)) _ | refine Below.drew ?_ | refine below_draw ?_ | refine Below.trans ?_ (Below.mono (by assumption) (by first | exact Nat.le_refl _ | omega | (simp; done) | (simp; omega))))


theorem near_any (n p q : Int) (w : World) (hn0 : 0 ≤ n) (hn1 : n ≤ 4000000) (hv : VR p q) : Calls Try.prog 110 #[.int .i64 n, .agg #[.int .i64 p, .int .i64 q]] w (RetInt (rnear n p q) w) := by
  obtain ⟨v1, v2, v3, v4⟩ := hv
  have m1 : 0 ≤ n * p := Int.mul_nonneg hn0 v3
  have m2 : n * p ≤ 4000000000 := by
    calc n * p ≤ 4000000 * p := Int.mul_le_mul_of_nonneg_right hn1 v3
      _ ≤ 4000000000 := by omega
  have q1 : 0 ≤ 2 * n * p := by rw [Int.mul_assoc]; omega
  have q2 : 2 * n * p ≤ 8000000000 := by rw [Int.mul_assoc]; omega
  unfold rnear
  go_enter Try.func110, Try.ntmps110
  go_wp2
  go_ret
  refine ⟨rfl, ?_⟩
  repeat (first | exact Below.refl _ _ | assumption | refine Below.alloc ?_ (by first | exact Nat.le_refl _ | omega | (simp; done) | (simp; omega)) _ | refine Below.setCell ?_ (by first | exact Nat.le_refl _ | omega | (simp; done) | (simp; omega)) _ | refine Below.drew ?_ | refine below_draw ?_ | refine Below.trans ?_ (Below.mono (by assumption) (by first | exact Nat.le_refl _ | omega | (simp; done) | (simp; omega))))

set_option maxHeartbeats 1000000 in
theorem even_any (n p q : Int) (w : World) (hn0 : 0 ≤ n) (hn1 : n ≤ 4000000) (hv : VR p q) : Calls Try.prog 108 #[.int .i64 n, .agg #[.int .i64 p, .int .i64 q]] w (RetInt (reven n p q) w) := by
  obtain ⟨v1, v2, v3, v4⟩ := id hv
  have m1 : 0 ≤ n * p := Int.mul_nonneg hn0 v3
  have m2 : n * p ≤ 4000000000 := by
    calc n * p ≤ 4000000 * p := Int.mul_le_mul_of_nonneg_right hn1 v3
      _ ≤ 4000000000 := by omega
  have q1 : 0 ≤ 2 * n * p := by rw [Int.mul_assoc]; omega
  have q2 : 2 * n * p ≤ 8000000000 := by rw [Int.mul_assoc]; omega
  have hs := hide (reven_of_spec n p q v1)
  have hbd := rnear_bd n p q hn0 v3 v4 v1
  go_enter Try.func108, Try.ntmps108
  go_wp2_with fail
  refine (near_any n p q _ hn0 hn1 hv).mono ?_
  rintro e w1 ⟨rfl, hb⟩
  have x1 := below_box hb (by simp) (box_new w _ _)
  obtain ⟨c0, c1, _, _⟩ := box2 x1
  have B1 := hide (((Below.refl _ _).alloc (Nat.le_refl _) _).trans (hb.mono (by simp)))
  clear hb x1
  obtain ⟨r, hr⟩ : ∃ r, r = rnear n p q := ⟨_, rfl⟩
  rw [← hr] at hbd hs
  rw [← hr]
  have hr' := hide hr; clear hr
  have d1 : 0 ≤ 2 * n * p / q := Int.ediv_nonneg q1 (by omega)
  have d2 : 2 * n * p / q ≤ 2 * n * p := Int.ediv_le_self _ q1
  by_cases k1 : 2 * n * p % q = 0
  · have kb1 : ((2 * n * p % q : Int) == 0) = true := by simp [k1]
    by_cases k2 : 2 * n * p / q % 2 = 1
    · have kb2 : ((2 * n * p / q % 2 : Int) == 1) = true := by simp [k2]
      by_cases k3 : r % 2 = 1
      · have kb3 : ((r % 2 : Int) == 1) = true := by simp [k3]
        have hfin := hide (show r - 1 = reven n p q by rw [← hs.out, if_pos ⟨k1, k2, k3⟩])
        clear k1 k2 k3 hs hr'
        go_wp2
        go_ret
        exact ⟨ret_int hfin.out, B1.out⟩
      · have kb3 : ((r % 2 : Int) == 1) = false := by simp [k3]
        have hfin := hide (show r = reven n p q by rw [← hs.out, if_neg (fun h => k3 h.2.2)])
        clear k1 k2 k3 hs hr'
        go_wp2
        go_ret
        exact ⟨ret_int hfin.out, B1.out⟩
    · have kb2 : ((2 * n * p / q % 2 : Int) == 1) = false := by simp [k2]
      have hfin := hide (show r = reven n p q by rw [← hs.out, if_neg (fun h => k2 h.2.1)])
      clear k1 k2 hs hr'
      go_wp2
      go_ret
      exact ⟨ret_int hfin.out, B1.out⟩
  · have kb1 : ((2 * n * p % q : Int) == 0) = false := by simp [k1]
    have hfin := hide (show r = reven n p q by rw [← hs.out, if_neg (fun h => k1 h.1)])
    clear k1 hs hr'
    go_wp2
    go_ret
    exact ⟨ret_int hfin.out, B1.out⟩

set_option maxHeartbeats 1000000 in
theorem implRoundEven_yes (n p q : Int) (w : World) (hn : VA n) (hv : VR p q) : Calls Try.prog 91 #[.int .i64 n, .agg #[.int .i64 p, .int .i64 q]] w (RetInt (reven n p q) w) := by
  obtain ⟨m1, m2⟩ := prod_in hn hv
  obtain ⟨n1, n2⟩ := id hn
  obtain ⟨v1, v2, v3, v4⟩ := id hv
  have q1 : 0 ≤ 2 * n * p := by rw [Int.mul_assoc]; omega
  have q2 : 2 * n * p ≤ 2000000000 := by rw [Int.mul_assoc]; omega
  have hbd := rnear_bd n p q n1 v3 v4 v1
  go_enter Try.func91, Try.ntmps91
  go_wp2_with fail
  refine (implRoundNear_yes n p q _ hn hv).mono ?_
  rintro e w1 ⟨rfl, hb⟩
  have x1 := below_box hb (by simp) (box_new w _ _)
  obtain ⟨c0, c1, _, _⟩ := box2 x1
  have B1 := hide (((Below.refl _ _).alloc (Nat.le_refl _) _).trans (hb.mono (by simp)))
  clear hb x1
  obtain ⟨r, hr⟩ : ∃ r, r = rnear n p q := ⟨_, rfl⟩
  have hs := hide (show reven n p q = if 2 * n * p % (2 * q) = q ∧ r % 2 = 1 then r - 1 else r by rw [hr]; rfl)
  rw [← hr] at hbd
  rw [← hr]
  clear hr
  by_cases k1 : 2 * n * p % (2 * q) = q
  · have kb1 : ((2 * n * p % (2 * q) : Int) == q) = true := by simp [k1]
    by_cases k3 : r % 2 = 1
    · have kb3 : ((r % 2 : Int) == 1) = true := by simp [k3]
      have hfin := hide (show r - 1 = reven n p q by rw [hs.out, if_pos ⟨k1, k3⟩])
      clear k1 k3 hs
      go_wp2
      go_quiet (fail)
      go_wp2
      go_ret
      exact ⟨ret_int hfin.out, below_draw B1.out⟩
    · have kb3 : ((r % 2 : Int) == 1) = false := by simp [k3]
      have hfin := hide (show r = reven n p q by rw [hs.out, if_neg (fun h => k3 h.2)])
      clear k1 k3 hs
      go_wp2
      go_quiet (fail)
      go_wp2
      go_ret
      exact ⟨ret_int hfin.out, below_draw B1.out⟩
  · have kb1 : ((2 * n * p % (2 * q) : Int) == q) = false := by simp [k1]
    have hfin := hide (show r = reven n p q by rw [hs.out, if_neg (fun h => k1 h.1)])
    clear k1 hs
    go_wp2
    go_quiet (fail)
    go_wp2
    go_ret
    exact ⟨ret_int hfin.out, below_draw B1.out⟩
theorem implRoundEven_no (n p q : Int) (w : World) (h : ¬ (VA n ∧ VR p q)) : Calls Try.prog 91 #[.int .i64 n, .agg #[.int .i64 p, .int .i64 q]] w (RetInt (-1) w) := by
  go_enter Try.func91, Try.ntmps91
  go_wp2_with fail
  refine (implRoundNear_no n p q _ h).mono ?_
  rintro e w1 ⟨rfl, hb⟩
  have x1 := below_box hb (by simp) (box_new w _ _)
  obtain ⟨c0, c1, _, _⟩ := box2 x1
  have B1 := hide (((Below.refl _ _).alloc (Nat.le_refl _) _).trans (hb.mono (by simp)))
  clear hb x1 h
  go_wp2
  go_ret
  exact ⟨rfl, B1.out⟩


end Go.Proofs.Ytjdfdikifiljjab
