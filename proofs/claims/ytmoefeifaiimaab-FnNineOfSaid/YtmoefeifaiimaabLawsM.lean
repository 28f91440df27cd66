/- Chapter 1: the walks of the laws of nines, digits and elevens, at drawn arguments. -/
import Derived.Test.YtmoefeifaiimaabDigits
import Derived.Test.YtmoefeifaiimaabDraw6
namespace Go.Proofs.Ytmoefeifaiimaab
open Go.ChangeShapes Go.WideShapes Go.ChangeAt Go.RowKit Go.Joins
set_option linter.unusedVariables false
set_option maxRecDepth 100000 in
set_option maxHeartbeats 1000000 in
theorem walkFnNineOf (w : World) (sa : Option Addr) (len cap : Nat) (h : Code w sa len cap) (hl : len ≤ maxLen) :
    Calls Try.prog 13 #[.slice sa len cap] w fun e w' => e = .returned (.bool true) ∧ Below w.heap.size w w' := by
  have hl' := hl
  unfold maxLen at hl'
  by_cases hbig : 1048576 < len
  · clear h hl
    go_enter Try.func13, Try.ntmps13
    go_wp2
    go_ret
    exact ⟨rfl, Below.refl _ _⟩
  · go_enter Try.func13, Try.ntmps13
    go_wp2_with fail
    refine (drawNineOf_any sa len cap w h hl).mono ?_
    rintro e w1 ⟨n, rfl, g1, g2, hb⟩
    have B1 := hide hb
    clear hb h hl
    by_cases hneg : n < 0
    · go_wp2
      go_ret
      exact ⟨rfl, B1.out⟩
    · obtain ⟨m, rfl⟩ := Int.eq_ofNat_of_zero_le (show 0 ≤ n by omega)
      have hs := (ssum_nine m)
      by_cases hbig : m ≤ 1000000
      · have HC := hide (fun w => implDigitSum_yes m w ⟨by omega, by omega⟩)
        rw [Int.toNat_natCast] at HC
        obtain ⟨s, hs'⟩ : ∃ s, s = ssum (rdig m) := ⟨_, rfl⟩
        rw [← hs'] at hs HC
        clear hs'
        obtain ⟨s1, s2, s3⟩ := hs
        have k1 : ((s % 9 : Int) == (m : Int) % 9) = true := by rw [beq_iff_eq]; exact s1
        have k2 : ((((m : Int) + 9) % 9 : Int) == (m : Int) % 9) = true := by rw [beq_iff_eq]; omega
        have k3 : (((10 * (m : Int)) % 9 : Int) == (m : Int) % 9) = true := by rw [beq_iff_eq]; omega
        have S1 := hide s1
        clear s1
        go_wp2_with (first | (go_at_call 36; refine (HC.out _).mono ?_; rintro e w2 ⟨rfl, hb⟩) | go_in)
        go_ret
        exact ⟨rfl, B1.out.trans (hb.mono B1.out.size)⟩
      · have k2 : ((((m : Int) + 9) % 9 : Int) == (m : Int) % 9) = true := by rw [beq_iff_eq]; omega
        have k3 : (((10 * (m : Int)) % 9 : Int) == (m : Int) % 9) = true := by rw [beq_iff_eq]; omega
        have k4 : decide ((1000000 : Int) < (m : Int)) = true := by simp; omega
        clear hs
        go_wp2
        go_ret
        exact ⟨rfl, B1.out⟩
set_option maxRecDepth 100000 in
set_option maxHeartbeats 1000000 in
theorem walkFnDigitSum (w : World) (sa : Option Addr) (len cap : Nat) (h : Code w sa len cap) (hl : len ≤ maxLen) :
    Calls Try.prog 14 #[.slice sa len cap] w fun e w' => e = .returned (.bool true) ∧ Below w.heap.size w w' := by
  have hl' := hl
  unfold maxLen at hl'
  by_cases hbig : 1048576 < len
  · clear h hl
    go_enter Try.func14, Try.ntmps14
    go_wp2
    go_ret
    exact ⟨rfl, Below.refl _ _⟩
  · go_enter Try.func14, Try.ntmps14
    go_wp2_with fail
    refine (drawDigitSum_any sa len cap w h hl).mono ?_
    rintro e w1 ⟨n, rfl, g1, g2, hb⟩
    have B1 := hide hb
    clear hb h hl
    by_cases ha : VA n
    · obtain ⟨m, rfl⟩ := Int.eq_ofNat_of_zero_le ha.1
      have n2 : m ≤ 1000000 := by have := ha.2; omega
      have hs := ssum_nine m
      have hten := ssum_ten m
      have hup := ssum_up m
      have Hi := hide (fun w => implDigitSum_yes m w ha)
      have Hs := hide (fun w => specDigitSum_yes m w ha)
      rw [Int.toNat_natCast] at Hi Hs
      obtain ⟨s, hs'⟩ : ∃ s, s = ssum (rdig m) := ⟨_, rfl⟩
      rw [← hs'] at hs hten hup Hi Hs
      clear hs'
      obtain ⟨s1, s2, s3⟩ := hs
      have k1 : ((s % 9 : Int) == (m : Int) % 9) = true := by rw [beq_iff_eq]; exact s1
      have Ht := hide (show m ≤ 100000 → ∀ w, Calls Try.prog 36 #[.int .i64 (10 * (m : Int))] w (RetI s w) from fun h w => by
        have := implDigitSum_yes (10 * (m : Int)) w ⟨by omega, by omega⟩
        rw [show (10 * (m : Int)).toNat = 10 * m by omega, hten] at this
        exact this)
      have Hu := hide (show m % 10 ≠ 9 → m < 1000000 → ∀ w, Calls Try.prog 36 #[.int .i64 ((m : Int) + 1)] w (RetI (s + 1) w) from fun h h' w => by
        have := implDigitSum_yes ((m : Int) + 1) w ⟨by omega, by omega⟩
        rw [show ((m : Int) + 1).toNat = m + 1 by omega, hup h] at this
        exact this)
      have e1 : ((s + 1 : Int) == s + 1) = true := by simp
      have S1 := hide s1
      clear s1 hten hup
      go_wp2_with fail
      refine (Hi.out _).mono ?_
      rintro e w2 ⟨rfl, hb⟩
      have B2 := hide (B1.out.trans (hb.mono B1.out.size))
      clear hb
      go_wp2_with fail
      refine (Hs.out _).mono ?_
      rintro e w3 ⟨rfl, hb⟩
      have B3 := hide (B2.out.trans (hb.mono B2.out.size))
      clear hb Hi Hs
      by_cases h1 : m ≤ 100000
      · have d1 : decide ((1000000 : Int) < 10 * (m : Int)) = false := by simp; omega
        go_wp2_with fail
        refine (Ht.out h1 _).mono ?_
        rintro e w4 ⟨rfl, hb⟩
        have B4 := hide (B3.out.trans (hb.mono B3.out.size))
        clear hb Ht
        have d2 : ((m : Int) == 1000000) = false := by rw [beq_eq_false_iff_ne]; omega
        by_cases h9 : m % 10 = 9
        · have d3 : (((m : Int) % 10 : Int) == 9) = true := by rw [beq_iff_eq]; omega
          clear h9 Hu
          go_wp2
          go_ret
          exact ⟨rfl, B4.out⟩
        · have d3 : (((m : Int) % 10 : Int) == 9) = false := by rw [beq_eq_false_iff_ne]; omega
          have Hv := hide (Hu.out h9 (by omega))
          clear h9 Hu
          go_wp2_with fail
          refine (Hv.out _).mono ?_
          rintro e w5 ⟨rfl, hb⟩
          have B5 := hide (B4.out.trans (hb.mono B4.out.size))
          clear hb
          go_wp2
          go_ret
          exact ⟨rfl, B5.out⟩
      · have d1 : decide ((1000000 : Int) < 10 * (m : Int)) = true := by simp; omega
        clear Ht
        by_cases hm : m = 1000000
        · subst hm
          have k5 : ((s % 9 : Int) == 1) = true := by rw [beq_iff_eq]; have := S1.out; omega
          clear Hu
          go_wp2
          go_ret
          exact ⟨rfl, B3.out⟩
        · have d2 : ((m : Int) == 1000000) = false := by rw [beq_eq_false_iff_ne]; omega
          by_cases h9 : m % 10 = 9
          · have d3 : (((m : Int) % 10 : Int) == 9) = true := by rw [beq_iff_eq]; omega
            clear h9 Hu
            go_wp2
            go_ret
            exact ⟨rfl, B3.out⟩
          · have d3 : (((m : Int) % 10 : Int) == 9) = false := by rw [beq_eq_false_iff_ne]; omega
            have Hv := hide (Hu.out h9 (by omega))
            clear h9 Hu hm
            go_wp2_with fail
            refine (Hv.out _).mono ?_
            rintro e w5 ⟨rfl, hb⟩
            have B5 := hide (B3.out.trans (hb.mono B3.out.size))
            clear hb
            go_wp2
            go_ret
            exact ⟨rfl, B5.out⟩
    · have Hi := hide (fun w => implDigitSum_no n w ha)
      have Hs := hide (fun w => specDigitSum_no n w ha)
      clear ha
      go_wp2_with fail
      refine (Hi.out _).mono ?_
      rintro e w2 ⟨rfl, hb⟩
      have B2 := hide (B1.out.trans (hb.mono B1.out.size))
      clear hb
      go_wp2_with fail
      refine (Hs.out _).mono ?_
      rintro e w3 ⟨rfl, hb⟩
      have B3 := hide (B2.out.trans (hb.mono B2.out.size))
      clear hb
      go_wp2_with fail
      refine (Hs.out _).mono ?_
      rintro e w4 ⟨rfl, hb⟩
      have B4 := hide (B3.out.trans (hb.mono B3.out.size))
      clear hb
      go_wp2
      go_ret
      exact ⟨rfl, B4.out⟩
end Go.Proofs.Ytmoefeifaiimaab
