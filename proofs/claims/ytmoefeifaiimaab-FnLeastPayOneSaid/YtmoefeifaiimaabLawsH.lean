/- Chapter 1: the walk of the law that one payment pays all. -/
import Derived.Test.YtmoefeifaiimaabMoney5
import Derived.Test.YtmoefeifaiimaabDraw6
import Derived.Deep.RegionHeld3
namespace Go.Proofs.Ytmoefeifaiimaab
open Go.ChangeShapes Go.WideShapes Go.ChangeAt Go.RowKit Go.Joins
set_option linter.unusedVariables false

set_option maxRecDepth 100000 in
set_option maxHeartbeats 1000000 in
theorem walkFnLeastPayOne (w : World) (sa : Option Addr) (len cap : Nat) (h : Code w sa len cap) (hl : len ≤ maxLen) :
    Calls Try.prog 9 #[.slice sa len cap] w fun e w' => e = .returned (.bool true) ∧ Below w.heap.size w w' := by
  have hl' := hl
  unfold maxLen at hl'
  by_cases hbig : 1048576 < len
  · clear h hl
    go_enter Try.func9, Try.ntmps9
    go_wp2
    go_ret
    exact ⟨rfl, Below.refl _ _⟩
  · go_enter Try.func9, Try.ntmps9
    go_wp2_with fail
    refine (drawLeastPay_any sa len cap w h hl).mono ?_
    rintro e w1 ⟨n, p, q, P, rfl, _, _, _, _, _, _, g1, g2, hb⟩
    have B1 := hide hb
    clear hb h hl
    by_cases hv : VA n ∧ VR p q ∧ 1 ≤ P ∧ P ≤ 60
    · obtain ⟨ha, hv, hP0, hP1⟩ := hv
      obtain ⟨v1, v2, v3, v4⟩ := id hv
      obtain ⟨k, hk⟩ := Int.eq_ofNat_of_zero_le (show 0 ≤ P by omega)
      obtain ⟨L, hL⟩ := exists_least n p q ha.1 v1 v3 v4 k (by omega)
      obtain ⟨O, hO⟩ := exists_least n p q ha.1 v1 v3 v4 1 (by omega)
      have hone := least_one n p q O hO ha.1 v3 v4 v1
      have hzero := least_zero n p q L k hL ha.1 v3 v4 v1
      have hbd := reven_bd n p q ha.1 v3 v4 v1
      have hL0 := hL.1
      have hL1 := hL.2.1
      have Hi := hide (fun w => implLeastPay_yes n p q k L w ha hv (by omega) (by omega) hL)
      have Hs := hide (fun w => specLeastPay_yes n p q k L w ha hv (by omega) (by omega) hL)
      have Ho := hide (fun w => implLeastPay_yes n p q 1 O w ha hv (by omega) (by omega) hO)
      have Hr := hide (fun w => implRoundEven_yes n p q w ha hv)
      rw [← hk] at Hi Hs
      obtain ⟨t, ht⟩ : ∃ t, t = reven n p q := ⟨_, rfl⟩
      rw [← ht] at hone hbd hL1 Hr
      have n1 := ha.1
      have n2 := ha.2
      have hd1 : decide (L < 0) = false := by simp; omega
      clear hL hO hk ht
      subst hone
      go_wp2_with fail
      refine (Hi.out _).mono ?_
      rintro e w2 ⟨rfl, hb⟩
      have X2 := hide (below_box hb (by simp) (box_new w1 _ _))
      have hz2 : w1.heap.size < w2.heap.size := by have := hb.size; simp at this; omega
      have B2 := hide ((B1.out.alloc B1.out.size _).trans (hb.mono (Nat.le_trans B1.out.size (by simp))))
      clear hb
      obtain ⟨c0, c1, _, _⟩ := box2 X2.out
      go_wp2_with fail
      refine (Hs.out _).mono ?_
      rintro e w3 ⟨rfl, hb⟩
      have X3 := hide (below_box hb hz2 X2.out)
      have hz3 := Nat.lt_of_lt_of_le hz2 hb.size
      have B3 := hide (B2.out.trans (hb.mono B2.out.size))
      clear hb c0 c1 X2 
      obtain ⟨c0, c1, _, _⟩ := box2 X3.out
      go_wp2_with fail
      refine (Ho.out _).mono ?_
      rintro e w4 ⟨rfl, hb⟩
      have X4 := hide (below_box hb hz3 X3.out)
      have hz4 := Nat.lt_of_lt_of_le hz3 hb.size
      have B4 := hide (B3.out.trans (hb.mono B3.out.size))
      clear hb c0 c1 X3 
      obtain ⟨c0, c1, _, _⟩ := box2 X4.out
      have k1 : ((n : Int) == 0) = ((L : Int) == 0) := by rw [Bool.eq_iff_iff]; simp; omega
      have e1 : IntKind.i64.wrap (n + t) = n + t := IntWalk.i64_in _ (by omega)
      go_wp2_with fail
      refine (Hr.out _).mono ?_
      rintro e w5 ⟨rfl, hb⟩
      have B5 := hide (B4.out.trans (hb.mono B4.out.size))
      clear hb c0 c1 hzero
      go_wp2
      go_ret
      exact ⟨rfl, B5.out⟩
    · have Hi := hide (fun w => implLeastPay_no n p q P w hv)
      have Hs := hide (fun w => specLeastPay_no n p q P w hv)
      clear hv
      go_wp2_with fail
      refine (Hi.out _).mono ?_
      rintro e w2 ⟨rfl, hb⟩
      have X2 := hide (below_box hb (by simp) (box_new w1 _ _))
      have hz2 : w1.heap.size < w2.heap.size := by have := hb.size; simp at this; omega
      have B2 := hide ((B1.out.alloc B1.out.size _).trans (hb.mono (Nat.le_trans B1.out.size (by simp))))
      clear hb
      obtain ⟨c0, c1, _, _⟩ := box2 X2.out
      go_wp2_with fail
      refine (Hs.out _).mono ?_
      rintro e w3 ⟨rfl, hb⟩
      have X3 := hide (below_box hb hz2 X2.out)
      have hz3 := Nat.lt_of_lt_of_le hz2 hb.size
      have B3 := hide (B2.out.trans (hb.mono B2.out.size))
      clear hb c0 c1 X2 
      obtain ⟨c0, c1, _, _⟩ := box2 X3.out
      go_wp2_with fail
      refine (Hs.out _).mono ?_
      rintro e w4 ⟨rfl, hb⟩
      have X4 := hide (below_box hb hz3 X3.out)
      have hz4 := Nat.lt_of_lt_of_le hz3 hb.size
      have B4 := hide (B3.out.trans (hb.mono B3.out.size))
      clear hb c0 c1 X3 
      obtain ⟨c0, c1, _, _⟩ := box2 X4.out
      go_wp2
      go_ret
      exact ⟨rfl, B4.out⟩
end Go.Proofs.Ytmoefeifaiimaab
