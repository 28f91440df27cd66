/- Chapter 1: the walk of the law that the least pay is enough. -/
import Derived.Test.YtmoefeifaiimaabMoney5
import Derived.Test.YtmoefeifaiimaabDraw6
namespace Go.Proofs.Ytmoefeifaiimaab
open Go.ChangeShapes Go.WideShapes Go.ChangeAt Go.RowKit Go.Joins
set_option linter.unusedVariables false

set_option maxRecDepth 100000 in
set_option maxHeartbeats 1000000 in
theorem walkFnLeastPay (w : World) (sa : Option Addr) (len cap : Nat) (h : Code w sa len cap) (hl : len ≤ maxLen) :
    Calls Try.prog 8 #[.slice sa len cap] w fun e w' => e = .returned (.bool true) ∧ Below w.heap.size w w' := by
  have hl' := hl
  unfold maxLen at hl'
  by_cases hbig : 1048576 < len
  · clear h hl
    go_enter Try.func8, Try.ntmps8
    go_wp2
    go_ret
    exact ⟨rfl, Below.refl _ _⟩
  · go_enter Try.func8, Try.ntmps8
    go_wp2_with fail
    refine (drawLeastPay_any sa len cap w h hl).mono ?_
    rintro e w1 ⟨n, p, q, P, rfl, _, _, _, _, _, _, g1, g2, hb⟩
    have B1 := hide hb
    clear hb h hl
    by_cases hv : VA n ∧ VR p q ∧ 1 ≤ P ∧ P ≤ 60
    · obtain ⟨ha, hv, hP0, hP1⟩ := hv
      obtain ⟨v1, v2, v3, v4⟩ := id hv
      obtain ⟨k, hk⟩ := Int.eq_ofNat_of_zero_le (show 0 ≤ P by omega)
      obtain ⟨L, hL⟩ := exists_least n p q ha.1 v1 v3 v4 k (by omega)
      have hzero := least_zero n p q L k hL ha.1 v3 v4 v1
      have hbd := reven_bd n p q ha.1 v3 v4 v1
      have hL0 := hL.1
      have hL1 := hL.2.1
      have Hi := hide (fun w => implLeastPay_yes n p q k L w ha hv (by omega) (by omega) hL)
      have Hs := hide (fun w => specLeastPay_yes n p q k L w ha hv (by omega) (by omega) hL)
      rw [← hk] at Hi Hs
      obtain ⟨t, ht⟩ : ∃ t, t = reven n p q := ⟨_, rfl⟩
      rw [← ht] at hbd hL1
      have n1 := ha.1
      have n2 := ha.2
      have hd1 : decide (L < 0) = false := by simp; omega
      have HL := hide hL
      have HZ := hide hzero
      have HK := hide hk
      clear ht hL hzero hk
      go_wp2_with fail
      refine (Hi.out _).mono ?_
      rintro e w2 ⟨rfl, hb⟩
      have X2 := hide (below_box hb (by simp) (box_new w1 _ _))
      have hz2 : w1.heap.size < w2.heap.size := by have := hb.size; simp at this; omega
      have B2 := hide ((B1.out.alloc B1.out.size _).trans (hb.mono (Nat.le_trans B1.out.size (by simp))))
      clear hb
      obtain ⟨c0, c1, _, _⟩ := box2 X2.out
      go_wp2_with fail
      refine (Hs.out _).mono ?_
      rintro e w3 ⟨rfl, hb⟩
      have X3 := hide (below_box hb hz2 X2.out)
      have hz3 := Nat.lt_of_lt_of_le hz2 hb.size
      have B3 := hide (B2.out.trans (hb.mono B2.out.size))
      clear hb c0 c1 X2 
      obtain ⟨c0, c1, _, _⟩ := box2 X3.out
      by_cases hq : 1000000 < L ∨ n = 0
      · rcases hq with hq | hq
        · have hd2 : decide (1000000 < L) = true := by simp; omega
          clear hq
          go_wp2_with fail
          refine (Hs.out _).mono ?_
          rintro e w4 ⟨rfl, hb⟩
          have B4 := hide (B3.out.trans (hb.mono B3.out.size))
          clear hb
          go_wp2
          go_ret
          exact ⟨ret_bool (by simp), B4.out⟩
        · have hd2 : decide (1000000 < L) = false := by
            have := HZ.out.1 hq
            simp; omega
          subst hq
          go_wp2_with fail
          refine (Hs.out _).mono ?_
          rintro e w4 ⟨rfl, hb⟩
          have B4 := hide (B3.out.trans (hb.mono B3.out.size))
          clear hb
          go_wp2
          go_ret
          exact ⟨ret_bool (by simp), B4.out⟩
      · have hL := HL.out
        have hk := HK.out
        have hLn : L ≠ 0 := fun h => hq (.inr (HZ.out.2 h))
        have hd2 : decide (1000000 < L) = false := by simp; omega
        have hd3 : ((n : Int) == 0) = false := by simp; omega
        obtain ⟨b1, b2, b3⟩ := paid_bal p q L v3 v1 k 60 n (by omega) n1 n2 hL.2.2.1
        have hne := bal_pos p q L n (by omega) n2
        have hlast := bal_last p q L 60 n hne
        have ho : owedL p q L n = bal p q L 60 n := by unfold owedL; rw [if_pos b2]
        have Ho := hide (fun w => implOwedAfter_yes n p q L w ha hv ⟨hL0, by omega⟩)
        have Hl := hide (fun w => implOwedAfter_yes n p q (L - 1) w ha hv ⟨by omega, by omega⟩)
        obtain ⟨l, hl⟩ : ∃ l, l = bal p q L 60 n := ⟨_, rfl⟩
        rw [ho, ← hl] at Ho
        rw [← hl] at b1 b3 hne hlast
        have hlp : 0 < l.length := List.length_pos_iff.2 hne
        obtain ⟨l2, hl2⟩ : ∃ l, l = owedL p q (L - 1) n := ⟨_, rfl⟩
        rw [← hl2] at Hl
        have Hgood := hide (show l2.length = 0 ∨ P < l2.length ∨ 0 < l2.getD (l2.length - 1) 0 by
          by_cases g0 : l2.length = 0
          · exact .inl g0
          · by_cases g1 : P < l2.length
            · exact .inr (.inl g1)
            · right; right
              have hlb : l2 = bal p q (L - 1) 60 n ∧ ∀ x ∈ l2, 0 ≤ x ∧ x ≤ 1000000 := by
                unfold owedL at hl2
                split at hl2
                · exact ⟨hl2, by rw [hl2]; assumption⟩
                · rw [hl2] at g0; simp at g0
              have hbl := bal_last p q (L - 1) 60 n (by rw [← hlb.1]; intro h; rw [h] at g0; simp at g0)
              rw [← hlb.1] at hbl
              rw [← hbl]
              have hin := lastOr_in l2 n n1 n2 hlb.2
              by_cases g2 : lastOr n l2 = 0
              · exfalso
                rw [hlb.1] at g1 g2
                exact hL.2.2.2 (L - 1) (by omega) (by omega) (bal_paid p q (L - 1) v1 (by omega) 60 k n (by omega) g2)
              · omega)
        have hl2len : l2.length ≤ 60 := by rw [hl2]; exact owedL_len _ _ _ _
        have Hlast := hide (show l.getD (l.length - 1) 0 = 0 by rw [← hlast]; exact b3)
        have hkP : (l.length : Int) ≤ P := by omega
        clear hl hl2 hL hk hq ho b2 b3 hlast hne hLn
        go_wp2_with fail
        refine (Ho.out _).mono ?_
        rintro e w4 ⟨sa1, cap1, rfl, hr, hb⟩
        have X4 := hide (below_box hb hz3 X3.out)
        have hz4 := Nat.lt_of_lt_of_le hz3 hb.size
        have B4 := hide (B3.out.trans (hb.mono B3.out.size))
        have L4 := hide hr.lst
        clear hb hr c0 c1 X3
        obtain ⟨c0, c1, _, _⟩ := box2 X4.out
        obtain ⟨g, off, rfl, hg, hc⟩ := L4.out.at (k := l.length - 1) (by omega)
        rw [Hlast.out] at hc
        have hnat : ((l.length : Int) - 1).toNat = l.length - 1 := by omega
        have hi0 : 0 ≤ (l.length : Int) - 1 := by omega
        have hi1 : (l.length : Int) - 1 < (l.length : Int) := by omega
        have hd4 : ((l.length : Int) == 0) = false := by rw [beq_eq_false_iff_ne]; omega
        have hd5 : decide (P < (l.length : Int)) = false := by simp; omega
        go_wp2_with fail
        refine (Hl.out _).mono ?_
        rintro e w5 ⟨sa2, cap2, rfl, hr, hb⟩
        have B5 := hide (B4.out.trans (hb.mono B4.out.size))
        have L5 := hide hr.lst
        clear hb hr c0 c1 hc hnat hi0 hi1 hd4 hd5 hkP
        by_cases g0 : l2.length = 0
        · obtain rfl := List.length_eq_zero_iff.1 g0
          go_wp2
          go_ret
          exact ⟨rfl, B5.out⟩
        · have hd6 : ((l2.length : Int) == 0) = false := by rw [beq_eq_false_iff_ne]; omega
          by_cases g1 : P < l2.length
          · have hd7 : decide (P < (l2.length : Int)) = true := by simp; omega
            go_wp2
            go_ret
            exact ⟨rfl, B5.out⟩
          · have hd7 : decide (P < (l2.length : Int)) = false := by simp; omega
            have hx : 0 < l2.getD (l2.length - 1) 0 := by
              rcases Hgood.out with h | h | h
              · exact absurd h g0
              · exact absurd h g1
              · exact h
            obtain ⟨g', off', rfl, hg', hc⟩ := L5.out.at (k := l2.length - 1) (by omega)
            have hnat : ((l2.length : Int) - 1).toNat = l2.length - 1 := by omega
            have hi0 : 0 ≤ (l2.length : Int) - 1 := by omega
            have hi1 : (l2.length : Int) - 1 < (l2.length : Int) := by omega
            obtain ⟨y, hy⟩ : ∃ y, y = l2.getD (l2.length - 1) 0 := ⟨_, rfl⟩
            rw [← hy] at hc hx
            clear hy g0 g1
            go_wp2
            go_ret
            exact ⟨rfl, B5.out⟩
    · have Hi := hide (fun w => implLeastPay_no n p q P w hv)
      have Hs := hide (fun w => specLeastPay_no n p q P w hv)
      clear hv
      go_wp2_with fail
      refine (Hi.out _).mono ?_
      rintro e w2 ⟨rfl, hb⟩
      have X2 := hide (below_box hb (by simp) (box_new w1 _ _))
      have hz2 : w1.heap.size < w2.heap.size := by have := hb.size; simp at this; omega
      have B2 := hide ((B1.out.alloc B1.out.size _).trans (hb.mono (Nat.le_trans B1.out.size (by simp))))
      clear hb
      obtain ⟨c0, c1, _, _⟩ := box2 X2.out
      go_wp2_with fail
      refine (Hs.out _).mono ?_
      rintro e w3 ⟨rfl, hb⟩
      have X3 := hide (below_box hb hz2 X2.out)
      have hz3 := Nat.lt_of_lt_of_le hz2 hb.size
      have B3 := hide (B2.out.trans (hb.mono B2.out.size))
      clear hb c0 c1 X2 
      obtain ⟨c0, c1, _, _⟩ := box2 X3.out
      go_wp2_with fail
      refine (Hs.out _).mono ?_
      rintro e w4 ⟨rfl, hb⟩
      have X4 := hide (below_box hb hz3 X3.out)
      have hz4 := Nat.lt_of_lt_of_le hz3 hb.size
      have B4 := hide (B3.out.trans (hb.mono B3.out.size))
      clear hb c0 c1 X3 
      obtain ⟨c0, c1, _, _⟩ := box2 X4.out
      go_wp2
      go_ret
      exact ⟨rfl, B4.out⟩
end Go.Proofs.Ytmoefeifaiimaab
