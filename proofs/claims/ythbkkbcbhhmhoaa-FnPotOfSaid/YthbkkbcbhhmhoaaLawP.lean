/- Chapter 3: the walk of the law of pots, at drawn arguments. -/
import Derived.Test.YthbkkbcbhhmhoaaDrawP
import Derived.Test.YthbkkbcbhhmhoaaOrd1
namespace Go.Proofs.Ythbkkbcbhhmhoaa
open Go.ChangeShapes Go.WideShapes Go.ChangeAt Go.RowKit Go.Joins Go.Sort
set_option linter.unusedVariables false
set_option maxHeartbeats 400000 in
theorem walkFnPotOf (w : World) (sa : Option Addr) (len cap : Nat) (h : Code w sa len cap) (hl : len ≤ maxLen) :
    Calls Try.prog 11 #[.slice sa len cap] w fun e w' => e = .returned (.bool true) ∧ Below w.heap.size w w' := by
  have hl' := hl
  unfold maxLen at hl'
  by_cases hbig : 1048576 < len
  · clear h hl
    go_enter Try.func11, Try.ntmps11
    go_wp2
    go_ret
    exact ⟨rfl, Below.refl _ _⟩
  · go_enter Try.func11, Try.ntmps11
    go_wp2_with fail
    refine (dDrawPotOf sa len cap w h hl).mono ?_
    rintro e w1 ⟨a, b, rfl, a0, a1, b0, b1, E1⟩
    clear h hl hl' hbig
    by_cases hok : potOk a b
    · have hb := pot_bd hok
      obtain ⟨ha, hb2⟩ := id hok
      have HP1 := hide (fun w => implPot a b w)
      have HP2 := hide (fun w => specPot a b w)
      rw [pot_yes hok] at HP1 HP2
      go_wp2_with fail; refine (HP1.out _).mono ?_; rintro e w' ⟨rfl, rfl⟩
      go_wp2_with fail; refine (HP2.out _).mono ?_; rintro e w' ⟨rfl, rfl⟩
      have hd0 : ((a * b : Int) != a * b) = false := by simp
      have hd1 : ((a * b : Int) == a * b) = true := by simp
      by_cases h1 : a = 1
      · have hd : (a == 1) = true := by rw [beq_iff_eq]; exact h1
        clear hok h1
        go_wp2
        go_ret
        exact ⟨rfl, E1⟩
      · have hd : (a == 1) = false := by rw [beq_eq_false_iff_ne]; exact h1
        have hok2 : potOk (a - 1) b := ⟨by omega, hb2⟩
        have hb3 := pot_bd hok2
        have HP3 := hide (fun w => implPot (a - 1) b w)
        rw [pot_yes hok2] at HP3
        have hd4 : ((a * b : Int) == (a - 1) * b + b) = true := by rw [beq_iff_eq, Int.sub_mul]; omega
        clear hok hok2 h1
        go_wp2_with fail; refine (HP3.out _).mono ?_; rintro e w' ⟨rfl, rfl⟩
        go_wp2
        go_ret
        exact ⟨rfl, E1⟩
    · have HP1 := hide (fun w => implPot a b w)
      have HP2 := hide (fun w => specPot a b w)
      rw [pot_no hok] at HP1 HP2
      clear hok
      go_wp2_with fail; refine (HP1.out _).mono ?_; rintro e w' ⟨rfl, rfl⟩
      go_wp2_with fail; refine (HP2.out _).mono ?_; rintro e w' ⟨rfl, rfl⟩
      go_wp2_with fail; refine (HP2.out _).mono ?_; rintro e w' ⟨rfl, rfl⟩
      go_wp2
      go_ret
      exact ⟨rfl, E1⟩
end Go.Proofs.Ythbkkbcbhhmhoaa
