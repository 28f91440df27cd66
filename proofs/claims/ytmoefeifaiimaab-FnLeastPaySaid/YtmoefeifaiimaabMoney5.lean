/- Chapter 1's least pay. -/
import Derived.Test.YtmoefeifaiimaabMoney4
namespace Go.Proofs.Ytmoefeifaiimaab
open Go.ChangeShapes Go.WideShapes Go.ChangeAt Go.RowKit Go.Joins
set_option linter.unusedVariables false

set_option maxHeartbeats 1000000 in
theorem paidIn_any (n p q pay : Int) (P : Nat) (w : World) (hn : VA n) (hv : VR p q) (s1 : 0 ≤ pay) (s2 : pay ≤ 2000000) (hP : P ≤ 60) :
    Calls Try.prog 56 #[.int .i64 n, .agg #[.int .i64 p, .int .i64 q], .int .i64 pay, .int .i64 P] w (RetBool (paidS p q pay P n) w) := by
  obtain ⟨v1, v2, v3, v4⟩ := id hv
  go_enter Try.func56, Try.ntmps56
  go_wp2
  go_loopw [0, 9] (fun a i wr => ∃ (k : Nat) (m : Int), k ≤ P ∧ i = .int .i64 k ∧ a = .int .i64 m ∧ -3000000 ≤ m ∧ m ≤ 2000000 ∧ paidS p q pay (P - k) m = paidS p q pay P n ∧ wr.heap[w.heap.size]? = some (.cells #[.int .i64 p, .int .i64 q] 24 (0, 0)) ∧ w.heap.size < wr.heap.size ∧ Below w.heap.size w wr)
    (fun _ i _ => P - (intOf i).toNat)
  case atStart => exact ⟨0, n, Nat.zero_le _, rfl, rfl, by have := hn.1; omega, by have := hn.2; omega, rfl, box_new w _ _, by simp, (Below.refl _ _).alloc (Nat.le_refl _) _⟩
  case round =>
    obtain ⟨k, m, hk, rfl, rfl, hm0, hm1, hg, hx, hz, hB⟩ := hrel
    have HB := hide hB
    have HX := hide hx
    have HG := hide hg
    clear hB hx hg
    by_cases hlt : k < P
    · by_cases hmp : 0 < m
      · have hbd := reven_bd m p q (by omega) v3 v4 v1
        obtain ⟨c0, c1, _, _⟩ := box2 HX.out
        have HS := hide (show paidS p q pay (P - k) m = if 2000000 < m + reven m p q - pay then false else paidS p q pay (P - (k + 1)) (m + reven m p q - pay) by
          rw [show P - k = (P - (k + 1)) + 1 by omega]; simp only [paidS]; rw [if_pos hmp])
        go_wp2_with fail
        refine (even_any m p q _ (by omega) (by omega) hv).mono ?_
        rintro e w1 ⟨rfl, hb⟩
        have X1 := hide (below_box hb hz HX.out)
        have hz1 := Nat.lt_of_lt_of_le hz hb.size
        have B1 := hide (HB.out.trans (hb.mono HB.out.size))
        clear hb c0 c1 HX HB
        obtain ⟨t, ht⟩ : ∃ t, t = reven m p q := ⟨_, rfl⟩
        rw [← ht] at hbd HS
        rw [← ht]
        clear ht
        by_cases hbig : 2000000 < m + t - pay
        · have hfin := hide (show false = paidS p q pay P n by rw [← HG.out, HS.out, if_pos hbig])
          clear HS HG
          go_wp2
          go_ret
          exact ⟨ret_bool hfin.out, B1.out⟩
        · have hfin := hide (show paidS p q pay (P - (k + 1)) (m + t - pay) = paidS p q pay P n by rw [← HG.out, HS.out, if_neg hbig])
          clear HS HG
          go_wp2
          go_roundw
          case rel => exact ⟨k + 1, m + t - pay, by omega, by go_num, rfl, by omega, by omega, hfin.out, X1.out, hz1, B1.out⟩
          case measure => simp [intOf]; omega
      · have hfin := hide (show true = paidS p q pay P n by rw [← HG.out, paidS_neg _ _ _ _ _ (by omega)])
        clear HG
        go_wp2
        go_ret
        exact ⟨ret_bool hfin.out, HB.out⟩
    · have hfin := hide (show decide (m ≤ 0) = paidS p q pay P n by rw [← HG.out, show P - k = 0 by omega]; rfl)
      clear HG
      go_wp2
      go_ret
      exact ⟨ret_bool hfin.out, HB.out⟩

set_option maxHeartbeats 1000000 in
theorem isPaidBack_any (n p q pay : Int) (P : Nat) (w : World) (hn : VA n) (hv : VR p q) (s1 : 0 ≤ pay) (s2 : pay ≤ 2000000) (hP : P ≤ 60) :
    Calls Try.prog 55 #[.int .i64 n, .agg #[.int .i64 p, .int .i64 q], .int .i64 pay, .int .i64 P] w (RetBool (paidI p q pay P n) w) := by
  obtain ⟨v1, v2, v3, v4⟩ := id hv
  go_enter Try.func55, Try.ntmps55
  go_wp2
  go_loopw [0, 9] (fun a i wr => ∃ (k : Nat) (m : Int), k ≤ P ∧ i = .int .i64 k ∧ a = .int .i64 m ∧ 0 ≤ m ∧ m ≤ 1000000 ∧ paidI p q pay (P - k) m = paidI p q pay P n ∧ wr.heap[w.heap.size]? = some (.cells #[.int .i64 p, .int .i64 q] 24 (0, 0)) ∧ w.heap.size < wr.heap.size ∧ Below w.heap.size w wr)
    (fun _ i _ => P - (intOf i).toNat)
  case atStart => exact ⟨0, n, Nat.zero_le _, rfl, rfl, hn.1, hn.2, rfl, box_new w _ _, by simp, (Below.refl _ _).alloc (Nat.le_refl _) _⟩
  case round =>
    obtain ⟨k, m, hk, rfl, rfl, hm0, hm1, hg, hx, hz, hB⟩ := hrel
    have HB := hide hB
    have HX := hide hx
    have HG := hide hg
    clear hB hx hg
    by_cases hlt : k < P
    · by_cases hmp : 0 < m
      · have hnn := onext_nn p q pay m
        obtain ⟨c0, c1, _, _⟩ := box2 HX.out
        have HS := hide (show paidI p q pay (P - k) m = if m ≤ onext p q pay m then false else paidI p q pay (P - (k + 1)) (onext p q pay m) by
          rw [show P - k = (P - (k + 1)) + 1 by omega]; simp only [paidI]; rw [if_pos hmp])
        go_wp2_with fail
        refine (owedNext_any m p q pay _ ⟨hm0, hm1⟩ hv s1 (by omega)).mono ?_
        rintro e w1 ⟨rfl, hb⟩
        have X1 := hide (below_box hb hz HX.out)
        have hz1 := Nat.lt_of_lt_of_le hz hb.size
        have B1 := hide (HB.out.trans (hb.mono HB.out.size))
        clear hb c0 c1 HX HB
        obtain ⟨t, ht⟩ : ∃ t, t = onext p q pay m := ⟨_, rfl⟩
        rw [← ht] at hnn HS
        rw [← ht]
        clear ht
        by_cases hbig : m ≤ t
        · have hfin := hide (show false = paidI p q pay P n by rw [← HG.out, HS.out, if_pos hbig])
          clear HS HG
          go_wp2
          go_ret
          exact ⟨ret_bool hfin.out, B1.out⟩
        · have hfin := hide (show paidI p q pay (P - (k + 1)) t = paidI p q pay P n by rw [← HG.out, HS.out, if_neg hbig])
          clear HS HG
          go_wp2
          go_roundw
          case rel => exact ⟨k + 1, t, by omega, by go_num, rfl, by omega, by omega, hfin.out, X1.out, hz1, B1.out⟩
          case measure => simp [intOf]; omega
      · obtain rfl : m = 0 := by omega
        have hfin := hide (show true = paidI p q pay P n by
          rw [← HG.out, show P - k = (P - (k + 1)) + 1 by omega]; simp [paidI])
        clear HG
        go_wp2
        go_ret
        exact ⟨ret_bool hfin.out, HB.out⟩
    · have hfin := hide (show (m == 0) = paidI p q pay P n by rw [← HG.out, show P - k = 0 by omega]; simp only [paidI]; rw [Bool.eq_iff_iff]; simp)
      clear HG
      go_wp2
      go_ret
      exact ⟨ret_bool hfin.out, HB.out⟩

set_option maxHeartbeats 2000000 in
theorem specLeastPay_yes (n p q : Int) (P : Nat) (L : Int) (w : World) (hn : VA n) (hv : VR p q) (hP1 : 1 ≤ P) (hP : P ≤ 60) (hL : IsLeastPay n p q P L) :
    Calls Try.prog 29 #[.int .i64 n, .agg #[.int .i64 p, .int .i64 q], .int .i64 P] w (RetInt L w) := by
  obtain ⟨v1, v2, v3, v4⟩ := id hv
  obtain ⟨n1, n2⟩ := id hn
  have l1 := hL.1
  have l2 := hL.2.1
  have hbd := reven_bd n p q n1 v3 v4 v1
  have HI := hide (fun y => hL.iff n1 v3 v1 y)
  clear hL
  go_enter Try.func29, Try.ntmps29
  go_wp2_with fail
  refine (specAmt_yes _ _ hn).mono ?_
  rintro e w' ⟨rfl, rfl⟩
  go_wp2_with fail
  refine (specvRate_yes p q _ hv).mono ?_
  rintro e w1 ⟨rfl, hb⟩
  have X1 := hide (below_box hb (by simp) (box_new w _ _))
  have hz1 : w.heap.size < w1.heap.size := by have := hb.size; simp at this; omega
  have B1 := hide (((Below.refl _ _).alloc (Nat.le_refl _) _).trans (hb.mono (by simp)))
  clear hb
  go_wp2_with fail
  refine (specInRange_yes _ _ _ _ (by omega) (by omega)).mono ?_
  rintro e w' ⟨rfl, rfl⟩
  go_wp2
  go_loopw [7, 8] (fun a b wr => ∃ lo hi : Int, a = .int .i64 lo ∧ b = .int .i64 hi ∧ 0 ≤ lo ∧ lo ≤ L ∧ L ≤ hi ∧ hi ≤ 2000000 ∧ wr.heap[w.heap.size]? = some (.cells #[.int .i64 p, .int .i64 q] 24 (0, 0)) ∧ w.heap.size < wr.heap.size ∧ Below w.heap.size w wr)
    (fun a b _ => (intOf b - intOf a).toNat)
  case atStart => exact ⟨0, 2000000, rfl, rfl, by omega, by omega, by omega, by omega, X1.out, hz1, B1.out⟩
  case round =>
    clear X1 B1 hz1
    obtain ⟨lo, hi, rfl, rfl, h0, hlo, hhi, hmax, hx, hz, hB⟩ := hrel
    have HB := hide hB
    have HX := hide hx
    clear hB hx
    by_cases hlt : lo < hi
    · obtain ⟨c0, c1, _, _⟩ := box2 HX.out
      go_wp2_with fail
      refine (paidIn_any n p q ((lo + hi) / 2) P _ hn hv (by omega) (by omega) hP).mono ?_
      rintro e w1 ⟨rfl, hb⟩
      have X1 := hide (below_box hb hz HX.out)
      have hz1 := Nat.lt_of_lt_of_le hz hb.size
      have B1 := hide (HB.out.trans (hb.mono HB.out.size))
      have HJ := hide (HI.out ((lo + hi) / 2) (by omega))
      have HK := hide (paidS_iff p q ((lo + hi) / 2) v3 v1 (by omega) P n n1 (by omega))
      clear hb c0 c1 HX HB
      by_cases hle : L ≤ (lo + hi) / 2
      · rw [HK.out.2 (HJ.out.2 hle)]
        clear HJ HK
        go_wp2
        go_roundw
        case rel => exact ⟨lo, _, rfl, rfl, h0, hlo, hle, by omega, X1.out, hz1, B1.out⟩
        case measure => simp [intOf]; omega
      · rw [show paidS p q ((lo + hi) / 2) P n = false from by
          cases hh : paidS p q ((lo + hi) / 2) P n with
          | false => rfl
          | true => exact absurd (HJ.out.1 (HK.out.1 hh)) hle]
        clear HJ HK
        go_wp2
        go_roundw
        case rel => exact ⟨_, hi, rfl, rfl, by omega, by omega, hhi, hmax, X1.out, hz1, B1.out⟩
        case measure => simp [intOf]; omega
    · have HF := hide (show lo = L by omega)
      go_wp2
      go_ret
      exact ⟨ret_int HF.out, HB.out⟩
theorem specLeastPay_no (n p q P : Int) (w : World) (h : ¬ (VA n ∧ VR p q ∧ 1 ≤ P ∧ P ≤ 60)) : Calls Try.prog 29 #[.int .i64 n, .agg #[.int .i64 p, .int .i64 q], .int .i64 P] w (RetInt (-1) w) := by
  by_cases hn : VA n
  · by_cases hv : VR p q
    · have hP : ¬ (1 ≤ P ∧ P ≤ 60) := fun x => h ⟨hn, hv, x⟩
      clear h
      go_enter Try.func29, Try.ntmps29
      go_wp2_with fail
      refine (specAmt_yes _ _ hn).mono ?_
      rintro e w' ⟨rfl, rfl⟩
      go_wp2_with fail
      refine (specvRate_yes p q _ hv).mono ?_
      rintro e w1 ⟨rfl, hb⟩
      have B1 := hide (((Below.refl _ _).alloc (Nat.le_refl _) _).trans (hb.mono (by simp)))
      clear hb
      go_wp2_with fail
      refine (specInRange_no _ _ _ _ hP).mono ?_
      rintro e w' ⟨rfl, rfl⟩
      clear hP
      go_wp2
      go_ret
      exact ⟨rfl, B1.out⟩
    · clear h
      go_enter Try.func29, Try.ntmps29
      go_wp2_with fail
      refine (specAmt_yes _ _ hn).mono ?_
      rintro e w' ⟨rfl, rfl⟩
      go_wp2_with fail
      refine (specvRate_no p q _ hv).mono ?_
      rintro e w1 ⟨rfl, hb⟩
      have B1 := hide (((Below.refl _ _).alloc (Nat.le_refl _) _).trans (hb.mono (by simp)))
      clear hb hv
      go_wp2
      go_ret
      exact ⟨rfl, B1.out⟩
  · clear h
    go_enter Try.func29, Try.ntmps29
    go_wp2_with fail
    refine (specAmt_no _ _ hn).mono ?_
    rintro e w' ⟨rfl, rfl⟩
    clear hn
    go_wp2
    go_ret
    exact ⟨rfl, (Below.refl _ _).alloc (Nat.le_refl _) _⟩

set_option maxHeartbeats 2000000 in
theorem implLeastPay_yes (n p q : Int) (P : Nat) (L : Int) (w : World) (hn : VA n) (hv : VR p q) (hP1 : 1 ≤ P) (hP : P ≤ 60) (hL : IsLeastPay n p q P L) :
    Calls Try.prog 28 #[.int .i64 n, .agg #[.int .i64 p, .int .i64 q], .int .i64 P] w (RetInt L w) := by
  obtain ⟨v1, v2, v3, v4⟩ := id hv
  obtain ⟨n1, n2⟩ := id hn
  have l1 := hL.1
  have l2 := hL.2.1
  have hbd := reven_bd n p q n1 v3 v4 v1
  have HI := hide (fun y => hL.iff n1 v3 v1 y)
  clear hL
  go_enter Try.func28, Try.ntmps28
  go_wp2_with fail
  refine (implAmt_yes _ _ hn).mono ?_
  rintro e w' ⟨rfl, rfl⟩
  go_wp2_with fail
  refine (implValidRate_yes p q _ hv).mono ?_
  rintro e w1 ⟨rfl, hb⟩
  have X1 := hide (below_box hb (by simp) (box_new w _ _))
  have hz1 : w.heap.size < w1.heap.size := by have := hb.size; simp at this; omega
  have B1 := hide (((Below.refl _ _).alloc (Nat.le_refl _) _).trans (hb.mono (by simp)))
  clear hb
  go_wp2_with fail
  refine (implInRange_yes _ _ _ _ (by omega) (by omega)).mono ?_
  rintro e w' ⟨rfl, rfl⟩
  obtain ⟨c0, c1, _, _⟩ := box2 X1.out
  go_wp2_with fail
  refine (implRoundEven_yes n p q _ hn hv).mono ?_
  rintro e w2 ⟨rfl, hb⟩
  have X2 := hide (below_box hb hz1 X1.out)
  have hz2 := Nat.lt_of_lt_of_le hz1 hb.size
  have B2 := hide (B1.out.trans (hb.mono B1.out.size))
  clear hb c0 c1 X1 B1 hz1
  obtain ⟨t, ht⟩ : ∃ t, t = reven n p q := ⟨_, rfl⟩
  rw [← ht] at hbd l2
  rw [← ht]
  clear ht
  go_wp2
  go_loopw [7, 8] (fun a b wr => ∃ lo hi : Int, a = .int .i64 lo ∧ b = .int .i64 hi ∧ 0 ≤ lo ∧ lo ≤ L ∧ L ≤ hi ∧ hi ≤ 2000000 ∧ wr.heap[w.heap.size]? = some (.cells #[.int .i64 p, .int .i64 q] 24 (0, 0)) ∧ w.heap.size < wr.heap.size ∧ Below w.heap.size w wr)
    (fun a b _ => (intOf b - intOf a).toNat)
  case atStart => exact ⟨0, n + t, rfl, rfl, by omega, by omega, by omega, by omega, X2.out, hz2, B2.out⟩
  case round =>
    clear X2 B2 hz2
    obtain ⟨lo, hi, rfl, rfl, h0, hlo, hhi, hmax, hx, hz, hB⟩ := hrel
    have HB := hide hB
    have HX := hide hx
    clear hB hx
    by_cases hlt : lo < hi
    · obtain ⟨c0, c1, _, _⟩ := box2 HX.out
      go_wp2_with fail
      refine (isPaidBack_any n p q ((lo + hi) / 2) P _ hn hv (by omega) (by omega) hP).mono ?_
      rintro e w1 ⟨rfl, hb⟩
      have X1 := hide (below_box hb hz HX.out)
      have hz1 := Nat.lt_of_lt_of_le hz hb.size
      have B1 := hide (HB.out.trans (hb.mono HB.out.size))
      have HJ := hide (HI.out ((lo + hi) / 2) (by omega))
      have HK := hide (paidI_iff p q ((lo + hi) / 2) v3 v1 (by omega) P n n1)
      clear hb c0 c1 HX HB
      by_cases hle : L ≤ (lo + hi) / 2
      · rw [HK.out.2 (HJ.out.2 hle)]
        clear HJ HK
        go_wp2
        go_roundw
        case rel => exact ⟨lo, _, rfl, rfl, h0, hlo, hle, by omega, X1.out, hz1, B1.out⟩
        case measure => simp [intOf]; omega
      · rw [show paidI p q ((lo + hi) / 2) P n = false from by
          cases hh : paidI p q ((lo + hi) / 2) P n with
          | false => rfl
          | true => exact absurd (HJ.out.1 (HK.out.1 hh)) hle]
        clear HJ HK
        go_wp2
        go_roundw
        case rel => exact ⟨_, hi, rfl, rfl, by omega, by omega, hhi, hmax, X1.out, hz1, B1.out⟩
        case measure => simp [intOf]; omega
    · have HF := hide (show lo = L by omega)
      go_wp2
      go_ret
      exact ⟨ret_int HF.out, HB.out⟩
theorem implLeastPay_no (n p q P : Int) (w : World) (h : ¬ (VA n ∧ VR p q ∧ 1 ≤ P ∧ P ≤ 60)) : Calls Try.prog 28 #[.int .i64 n, .agg #[.int .i64 p, .int .i64 q], .int .i64 P] w (RetInt (-1) w) := by
  by_cases hn : VA n
  · by_cases hv : VR p q
    · have hP : ¬ (1 ≤ P ∧ P ≤ 60) := fun x => h ⟨hn, hv, x⟩
      clear h
      go_enter Try.func28, Try.ntmps28
      go_wp2_with fail
      refine (implAmt_yes _ _ hn).mono ?_
      rintro e w' ⟨rfl, rfl⟩
      go_wp2_with fail
      refine (implValidRate_yes p q _ hv).mono ?_
      rintro e w1 ⟨rfl, hb⟩
      have B1 := hide (((Below.refl _ _).alloc (Nat.le_refl _) _).trans (hb.mono (by simp)))
      clear hb
      go_wp2_with fail
      refine (implInRange_no _ _ _ _ hP).mono ?_
      rintro e w' ⟨rfl, rfl⟩
      clear hP
      go_wp2
      go_ret
      exact ⟨rfl, B1.out⟩
    · clear h
      go_enter Try.func28, Try.ntmps28
      go_wp2_with fail
      refine (implAmt_yes _ _ hn).mono ?_
      rintro e w' ⟨rfl, rfl⟩
      go_wp2_with fail
      refine (implValidRate_no p q _ hv).mono ?_
      rintro e w1 ⟨rfl, hb⟩
      have B1 := hide (((Below.refl _ _).alloc (Nat.le_refl _) _).trans (hb.mono (by simp)))
      clear hb hv
      go_wp2
      go_ret
      exact ⟨rfl, B1.out⟩
  · clear h
    go_enter Try.func28, Try.ntmps28
    go_wp2_with fail
    refine (implAmt_no _ _ hn).mono ?_
    rintro e w' ⟨rfl, rfl⟩
    clear hn
    go_wp2
    go_ret
    exact ⟨rfl, (Below.refl _ _).alloc (Nat.le_refl _) _⟩
end Go.Proofs.Ytmoefeifaiimaab
