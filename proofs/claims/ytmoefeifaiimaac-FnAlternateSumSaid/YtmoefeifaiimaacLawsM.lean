/- Chapter 1: the walks of the laws of nines, digits and elevens, at drawn arguments. -/
import Derived.Test.YtmoefeifaiimaacDigits
import Derived.Test.YtmoefeifaiimaacDraw6
namespace Go.Proofs.Ytmoefeifaiimaac
open Go.ChangeShapes Go.WideShapes Go.ChangeAt Go.RowKit Go.Joins
set_option linter.unusedVariables false
set_option maxRecDepth 100000 in
set_option maxHeartbeats 1000000 in
theorem walkFnAlternateSum (w : World) (sa : Option Addr) (len cap : Nat) (h : Code w sa len cap) (hl : len ≤ maxLen) :
    Calls Try.prog 4 #[.slice sa len cap] w fun e w' => e = .returned (.bool true) ∧ Below w.heap.size w w' := by
  have hl' := hl
  unfold maxLen at hl'
  by_cases hbig : 1048576 < len
  · clear h hl
    go_enter Try.func4, Try.ntmps4
    go_wp2
    go_ret
    exact ⟨rfl, Below.refl _ _⟩
  · go_enter Try.func4, Try.ntmps4
    go_wp2_with fail
    refine (drawAlternateSum_any sa len cap w h hl).mono ?_
    rintro e w1 ⟨n, rfl, g1, g2, hb⟩
    have B1 := hide hb
    clear hb h hl
    by_cases ha : VA n
    · obtain ⟨m, rfl⟩ := Int.eq_ofNat_of_zero_le ha.1
      have n2 : m ≤ 1000000 := by have := ha.2; omega
      have hs := altN_eleven m
      have hten := altN_ten m
      have Hi := hide (fun w => implAlternateSum_yes m w ha)
      have Hs := hide (fun w => specAlternateSum_yes m w ha)
      rw [Int.toNat_natCast] at Hi Hs
      obtain ⟨s, hs'⟩ : ∃ s, s = altN m := ⟨_, rfl⟩
      have hs2 : alt (rdig m) (rdig m).length = s := hs'.symm
      rw [hs2] at Hi Hs
      rw [← hs'] at hs hten
      clear hs' hs2
      obtain ⟨s1, s2, s3⟩ := hs
      have s0 : 0 ≤ (m : Int) - s := by omega
      have k1 : ((((m : Int) - s) % 11 : Int) == 0) = true := by rw [beq_iff_eq]; exact s1
      have Ht := hide (show m ≤ 100000 → ∀ w, Calls Try.prog 17 #[.int .i64 (10 * (m : Int))] w (RetI (-s) w) from fun h w => by
        have := implAlternateSum_yes (10 * (m : Int)) w ⟨by omega, by omega⟩
        rw [show (10 * (m : Int)).toNat = 10 * m by omega] at this
        have e : alt (rdig (10 * m)) (rdig (10 * m)).length = -s := hten
        rw [e] at this
        exact this)
      clear s1 hten
      go_wp2_with fail
      refine (Hi.out _).mono ?_
      rintro e w2 ⟨rfl, hb⟩
      have B2 := hide (B1.out.trans (hb.mono B1.out.size))
      clear hb
      go_wp2_with fail
      refine (Hs.out _).mono ?_
      rintro e w3 ⟨rfl, hb⟩
      have B3 := hide (B2.out.trans (hb.mono B2.out.size))
      clear hb Hi Hs
      have d0 : decide ((1000000 : Int) < (m : Int)) = false := by simp; omega
      by_cases h1 : m ≤ 100000
      · have d1 : decide ((1000000 : Int) < 10 * (m : Int)) = false := by simp; omega
        go_wp2_with fail
        refine (Ht.out h1 _).mono ?_
        rintro e w4 ⟨rfl, hb⟩
        have B4 := hide (B3.out.trans (hb.mono B3.out.size))
        clear hb Ht
        go_wp2
        go_ret
        exact ⟨rfl, B4.out⟩
      · have d1 : decide ((1000000 : Int) < 10 * (m : Int)) = true := by simp; omega
        clear Ht
        go_wp2
        go_ret
        exact ⟨rfl, B3.out⟩
    · have Hi := hide (fun w => implAlternateSum_no n w ha)
      have Hs := hide (fun w => specAlternateSum_no n w ha)
      by_cases hneg : n < 0
      · have d0 : decide (n < 0) = true := decide_eq_true hneg
        clear ha
        go_wp2_with fail
        refine (Hi.out _).mono ?_
        rintro e w2 ⟨rfl, hb⟩
        have B2 := hide (B1.out.trans (hb.mono B1.out.size))
        clear hb
        go_wp2_with fail
        refine (Hs.out _).mono ?_
        rintro e w3 ⟨rfl, hb⟩
        have B3 := hide (B2.out.trans (hb.mono B2.out.size))
        clear hb
        go_wp2_with fail
        refine (Hs.out _).mono ?_
        rintro e w4 ⟨rfl, hb⟩
        have B4 := hide (B3.out.trans (hb.mono B3.out.size))
        clear hb
        go_wp2
        go_ret
        exact ⟨rfl, B4.out⟩
      · have d0 : decide (n < 0) = false := decide_eq_false hneg
        have d1 : decide (1000000 < n) = true := by unfold VA at ha; simp; omega
        clear ha
        go_wp2_with fail
        refine (Hi.out _).mono ?_
        rintro e w2 ⟨rfl, hb⟩
        have B2 := hide (B1.out.trans (hb.mono B1.out.size))
        clear hb
        go_wp2_with fail
        refine (Hs.out _).mono ?_
        rintro e w3 ⟨rfl, hb⟩
        have B3 := hide (B2.out.trans (hb.mono B2.out.size))
        clear hb
        go_wp2_with fail
        refine (Hs.out _).mono ?_
        rintro e w4 ⟨rfl, hb⟩
        have B4 := hide (B3.out.trans (hb.mono B3.out.size))
        clear hb
        go_wp2
        go_ret
        exact ⟨rfl, B4.out⟩
end Go.Proofs.Ytmoefeifaiimaac
