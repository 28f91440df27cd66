/- Chapter 1: the walk of the law that interest is what is paid more. -/
import Derived.Test.YtmoefeifaiimaabMoney6
import Derived.Test.YtmoefeifaiimaabDraw6
namespace Go.Proofs.Ytmoefeifaiimaab
open Go.ChangeShapes Go.WideShapes Go.ChangeAt Go.RowKit Go.Joins
set_option linter.unusedVariables false

set_option maxRecDepth 100000 in
set_option maxHeartbeats 1000000 in
theorem walkFnInterestOf (w : World) (sa : Option Addr) (len cap : Nat) (h : Code w sa len cap) (hl : len ≤ maxLen) :
    Calls Try.prog 11 #[.slice sa len cap] w fun e w' => e = .returned (.bool true) ∧ Below w.heap.size w w' := by
  have hl' := hl
  unfold maxLen at hl'
  by_cases hbig : 1048576 < len
  · clear h hl
    go_enter Try.func11, Try.ntmps11
    go_wp2
    go_ret
    exact ⟨rfl, Below.refl _ _⟩
  · go_enter Try.func11, Try.ntmps11
    go_wp2_with fail
    refine (drawInterestOf_any sa len cap w h hl).mono ?_
    rintro e w1 ⟨n, p, q, pay, rfl, _, _, _, _, _, _, g1, g2, hb⟩
    have B1 := hide hb
    clear hb h hl
    by_cases hv : VA n ∧ VR p q ∧ VA pay
    · obtain ⟨ha, hv, hpay⟩ := hv
      obtain ⟨v1, v2, v3, v4⟩ := id hv
      have n1 := ha.1
      have n2 := ha.2
      have s1 := hpay.1
      have s2 := hpay.2
      obtain ⟨r, hr0⟩ : ∃ r, r = interest p q pay n := ⟨_, rfl⟩
      have Hi := hide (fun w => implInterestOf_yes n p q pay w ha hv hpay)
      have Hs := hide (fun w => specInterestOf_yes n p q pay w ha hv hpay)
      rw [← hr0] at Hi Hs
      have HR := hide hr0
      clear hr0
      go_wp2_with fail
      refine (Hi.out _).mono ?_
      rintro e w2 ⟨rfl, hb⟩
      have X2 := hide (below_box hb (by simp) (box_new w1 _ _))
      have hz2 : w1.heap.size < w2.heap.size := by have := hb.size; simp at this; omega
      have B2 := hide ((B1.out.alloc B1.out.size _).trans (hb.mono (Nat.le_trans B1.out.size (by simp))))
      clear hb
      obtain ⟨c0, c1, _, _⟩ := box2 X2.out
      go_wp2_with fail
      refine (Hs.out _).mono ?_
      rintro e w3 ⟨rfl, hb⟩
      have X3 := hide (below_box hb hz2 X2.out)
      have hz3 := Nat.lt_of_lt_of_le hz2 hb.size
      have B3 := hide (B2.out.trans (hb.mono B2.out.size))
      clear hb c0 c1 X2 
      obtain ⟨c0, c1, _, _⟩ := box2 X3.out
      by_cases hneg : r < 0
      · have hd : decide (r < 0) = true := decide_eq_true hneg
        go_wp2_with fail
        refine (Hs.out _).mono ?_
        rintro e w4 ⟨rfl, hb⟩
        have B4 := hide (B3.out.trans (hb.mono B3.out.size))
        clear hb
        go_wp2
        go_ret
        exact ⟨ret_bool (by simp), B4.out⟩
      · have hd : decide (r < 0) = false := decide_eq_false hneg
        have hrr := HR.out
        unfold interest at hrr
        have hall : ∀ x ∈ bal p q pay 60 n, 0 ≤ x ∧ x ≤ 1000000 := by
          by_cases hh : ∀ x ∈ bal p q pay 60 n, 0 ≤ x ∧ x ≤ 1000000
          · exact hh
          · rw [if_neg hh] at hrr; omega
        rw [if_pos hall] at hrr
        have hl0 : ¬ 0 < lastOr n (bal p q pay 60 n) := by
          intro hh; rw [if_pos hh] at hrr; omega
        rw [if_neg hl0] at hrr
        have ho : owedL p q pay n = bal p q pay 60 n := by unfold owedL; rw [if_pos hall]
        have Ho := hide (fun w => implOwedAfter_yes n p q pay w ha hv hpay)
        have hstep := fun i hi => bal_step p q pay 60 n i hi
        have hlen := bal_len p q pay 60 n
        have hzero := bal_stop p q pay n 60
        have hpos := bal_pos p q pay n
        obtain ⟨l, hl⟩ : ∃ l, l = bal p q pay 60 n := ⟨_, rfl⟩
        rw [ho, ← hl] at Ho
        rw [← hl] at hrr hall hl0 hstep hlen hzero hpos
        have hlz := lastOr_in l n n1 n2 hall
        by_cases hn0 : n = 0
        · have hl' := hzero (by omega)
          subst hl'
          subst hn0
          have hr' : r = 0 := hrr
          subst hr'
          clear hl ho HR hrr hall hl0 hstep hlen hzero hpos hlz hneg
          go_wp2_with fail
          refine (Ho.out _).mono ?_
          rintro e w4 ⟨sa4, cap4, rfl, hr, hb⟩
          have B4 := hide (B3.out.trans (hb.mono B3.out.size))
          clear hb hr c0 c1
          go_wp2
          go_ret
          exact ⟨rfl, B4.out⟩
        · have hk0 : ((n : Int) == 0) = false := by rw [beq_eq_false_iff_ne]; exact hn0
          have hlp : 0 < l.length := List.length_pos_iff.2 (hpos (by omega) n2)
          obtain ⟨m1, m2⟩ := interest_all p q pay n l (fun i hi => ⟨(hstep i hi).1, (hstep i hi).2.2⟩) hlp (by omega)
          have hbin := lastOr_in (l.take (l.length - 1)) n n1 n2 (fun x hx => hall x (List.mem_of_mem_take hx))
          have hb0 : l.length = 1 → lastOr n (l.take (l.length - 1)) = n := fun h => by rw [h]; rfl
          have hb1 : ¬ l.length = 1 → lastOr n (l.take (l.length - 1)) = l.getD (l.length - 2) 0 := fun h => by
            have := lastOr_take n l (l.length - 2) (by omega)
            rw [show l.length - 2 + 1 = l.length - 1 by omega] at this
            exact this
          have p1 : 0 ≤ pay * ((l.length : Int) - 1) := Int.mul_nonneg s1 (by omega)
          have p2 : pay * ((l.length : Int) - 1) ≤ 60000000 := by
            have := Int.mul_le_mul s2 (show (l.length : Int) - 1 ≤ 60 by omega) (by omega) (by omega)
            omega
          rw [← hrr] at m1
          obtain ⟨b, hb'⟩ : ∃ b, b = lastOr n (l.take (l.length - 1)) := ⟨_, rfl⟩
          rw [← hb'] at m1 m2 hbin hb0 hb1
          have hbd := reven_bd b p q hbin.1 v3 v4 v1
          have Hev := hide (fun w => implRoundEven_yes b p q w hbin hv)
          obtain ⟨t, ht⟩ : ∃ t, t = reven b p q := ⟨_, rfl⟩
          rw [← ht] at m1 m2 hbd Hev
          have M1 := hide m1
          have HB0 := hide hb0
          have HB1 := hide hb1
          clear hl ho HR hrr hall hl0 hstep hzero hpos hlz hneg hn0 hb' ht m1 hb0 hb1
          go_wp2_with fail
          refine (Ho.out _).mono ?_
          rintro e w4 ⟨sa4, cap4, rfl, hr, hb⟩
          have X4 := hide (below_box hb hz3 X3.out)
          have hz4 := Nat.lt_of_lt_of_le hz3 hb.size
          have B4 := hide (B3.out.trans (hb.mono B3.out.size))
          have L4 := hide hr.lst
          clear hr
          clear hb c0 c1 X3 
          obtain ⟨c0, c1, _, _⟩ := box2 X4.out
          have hkey : ((r : Int) == pay * ((l.length : Int) - 1) + (b + t) - n) = true := by rw [beq_iff_eq]; exact M1.out
          have hbt : decide (b + t ≤ pay) = true := decide_eq_true m2
          rcases Classical.em (l.length = 1) with h1 | h1
          case' inl =>
            obtain rfl := HB0.out h1
            have hk1 : decide ((1 : Int) < (l.length : Int)) = false := decide_eq_false (by omega)
            clear HB0 HB1 M1 h1
          case' inr =>
            have hb1 := HB1.out h1
            obtain ⟨g, off, rfl, hg, hc⟩ := L4.out.at (k := l.length - 2) (by omega)
            rw [← hb1] at hc
            have hk1 : decide ((1 : Int) < (l.length : Int)) = true := decide_eq_true (by omega)
            have hnat : ((l.length : Int) - 2).toNat = l.length - 2 := by omega
            have hi0 : 0 ≤ (l.length : Int) - 2 := by omega
            have hi1 : (l.length : Int) - 2 < (l.length : Int) := by omega
            clear HB0 HB1 M1 h1 hb1
          all_goals
            go_wp2_with fail
            refine (Hev.out _).mono ?_
            rintro e w5 ⟨rfl, hb⟩
            have B5 := hide (B4.out.trans (hb.mono B4.out.size))
            clear hb c0 c1
            go_wp2
            go_ret
            exact ⟨rfl, B5.out⟩
    · have Hi := hide (fun w => implInterestOf_no n p q pay w hv)
      have Hs := hide (fun w => specInterestOf_no n p q pay w hv)
      clear hv
      go_wp2_with fail
      refine (Hi.out _).mono ?_
      rintro e w2 ⟨rfl, hb⟩
      have X2 := hide (below_box hb (by simp) (box_new w1 _ _))
      have hz2 : w1.heap.size < w2.heap.size := by have := hb.size; simp at this; omega
      have B2 := hide ((B1.out.alloc B1.out.size _).trans (hb.mono (Nat.le_trans B1.out.size (by simp))))
      clear hb
      obtain ⟨c0, c1, _, _⟩ := box2 X2.out
      go_wp2_with fail
      refine (Hs.out _).mono ?_
      rintro e w3 ⟨rfl, hb⟩
      have X3 := hide (below_box hb hz2 X2.out)
      have hz3 := Nat.lt_of_lt_of_le hz2 hb.size
      have B3 := hide (B2.out.trans (hb.mono B2.out.size))
      clear hb c0 c1 X2 
      obtain ⟨c0, c1, _, _⟩ := box2 X3.out
      go_wp2_with fail
      refine (Hs.out _).mono ?_
      rintro e w4 ⟨rfl, hb⟩
      have X4 := hide (below_box hb hz3 X3.out)
      have hz4 := Nat.lt_of_lt_of_le hz3 hb.size
      have B4 := hide (B3.out.trans (hb.mono B3.out.size))
      clear hb c0 c1 X3 
      obtain ⟨c0, c1, _, _⟩ := box2 X4.out
      go_wp2
      go_ret
      exact ⟨rfl, B4.out⟩
end Go.Proofs.Ytmoefeifaiimaab
