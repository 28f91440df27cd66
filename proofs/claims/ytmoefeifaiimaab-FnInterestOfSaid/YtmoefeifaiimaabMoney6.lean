/- Chapter 1's interest of a loan. -/
import Derived.Test.YtmoefeifaiimaabMoney4
namespace Go.Proofs.Ytmoefeifaiimaab
open Go.ChangeShapes Go.WideShapes Go.ChangeAt Go.RowKit Go.Joins
set_option linter.unusedVariables false

set_option maxHeartbeats 2000000 in
theorem implInterestOf_yes (n p q pay : Int) (w : World) (hn : VA n) (hv : VR p q) (hpay : VA pay) : Calls Try.prog 31 #[.int .i64 n, .agg #[.int .i64 p, .int .i64 q], .int .i64 pay] w (RetInt (interest p q pay n) w) := by
  obtain ⟨v1, v2, v3, v4⟩ := id hv
  obtain ⟨n1, n2⟩ := id hn
  go_enter Try.func31, Try.ntmps31
  go_wp2_with fail
  refine (implAmt_yes _ _ hn).mono ?_
  rintro e w' ⟨rfl, rfl⟩
  go_wp2_with fail
  refine (implValidRate_yes p q _ hv).mono ?_
  rintro e w1 ⟨rfl, hb⟩
  have X1 := hide (below_box hb (by simp) (box_new w _ _))
  have hz1 : w.heap.size < w1.heap.size := by have := hb.size; simp at this; omega
  have B1 := hide (((Below.refl _ _).alloc (Nat.le_refl _) _).trans (hb.mono (by simp)))
  clear hb
  go_wp2_with fail
  refine (implAmt_yes _ _ hpay).mono ?_
  rintro e w' ⟨rfl, rfl⟩
  obtain ⟨c0, c1, _, _⟩ := box2 X1.out
  go_wp2_with fail
  refine (implOwedAfter_yes n p q pay _ hn hv hpay).mono ?_
  rintro e w2 ⟨sa, cap, rfl, hr, hb⟩
  have X2 := hide (below_box hb hz1 X1.out)
  have hz2 := Nat.lt_of_lt_of_le hz1 hb.size
  have B2 := hide (B1.out.trans (hb.mono B1.out.size))
  have L2 := hide hr.lst
  clear hb c0 c1 X1 B1 hz1 hr
  have hlen := owedL_len p q pay n
  have HA := hide (show ∀ x ∈ owedL p q pay n, 0 ≤ x ∧ x ≤ 1000000 by
    unfold owedL; split
    · assumption
    · simp)
  have HI := hide (show interest p q pay n = if 0 < lastOr n (owedL p q pay n) then -1 else sumInt p q n (owedL p q pay n) by
    unfold interest owedL
    by_cases ha : ∀ x ∈ bal p q pay 60 n, 0 ≤ x ∧ x ≤ 1000000
    · rw [if_pos ha, if_pos ha]
    · rw [if_neg ha, if_neg ha]
      by_cases h0 : 0 < n
      · simp [lastOr, h0]
      · exact absurd (fun x hx => by rw [bal_stop _ _ _ _ _ (by omega)] at hx; simp at hx) ha)
  obtain ⟨l, hl⟩ : ∃ l, l = owedL p q pay n := ⟨_, rfl⟩
  rw [← hl] at hlen HA HI L2
  rw [← hl]
  clear hl
  go_wp2
  go_loopw [7, 8, 30] (fun a b i wr => ∃ k : Nat, k ≤ l.length ∧ i = .int .i64 k ∧ a = .int .i64 (sumInt p q n (l.take k)) ∧ b = .int .i64 (lastOr n (l.take k)) ∧ wr.heap[w.heap.size]? = some (.cells #[.int .i64 p, .int .i64 q] 24 (0, 0)) ∧ w.heap.size < wr.heap.size ∧ Below w.heap.size w wr ∧ Below w2.heap.size w2 wr)
    (fun _ _ i _ => l.length - (intOf i).toNat)
  case atStart => exact ⟨0, Nat.zero_le _, rfl, rfl, rfl, X2.out, hz2, B2.out, Below.refl _ _⟩
  case round =>
    clear X2 B2 hz2
    obtain ⟨k, hk, rfl, rfl, rfl, hx, hz, hB, hD⟩ := hrel
    have HB := hide hB
    have HD := hide hD
    have HX := hide hx
    clear hB hx hD
    have hin : ∀ x ∈ l.take k, 0 ≤ x ∧ x ≤ 1000000 := fun x hx => HA.out x (List.mem_of_mem_take hx)
    have hs := sumInt_in p q v3 v4 v1 (l.take k) n n1 n2 hin
    have hb := lastOr_in (l.take k) n n1 n2 hin
    have htl : (l.take k).length ≤ k := List.length_take_le _ _
    clear hin
    by_cases hlt : k < l.length
    · have Htk := hide (show l.take (k + 1) = l.take k ++ [l.getD k 0] by rw [List.take_succ_eq_append_getElem hlt, List.getD_eq_getElem?_getD, List.getElem?_eq_getElem hlt]; rfl)
      have HS := hide (sumInt_snoc p q (l.take k) n (l.getD k 0))
      have HT := hide (lastOr_snoc (l.take k) n (l.getD k 0))
      obtain ⟨g, off, rfl, hg, hc⟩ := (L2.out.keep HD.out).at hlt
      obtain ⟨c0, c1, _, _⟩ := box2 HX.out
      obtain ⟨y, hy⟩ : ∃ y, y = l.getD k 0 := ⟨_, rfl⟩
      obtain ⟨s, hs'⟩ : ∃ s, s = sumInt p q n (l.take k) := ⟨_, rfl⟩
      obtain ⟨b, hb'⟩ : ∃ s, s = lastOr n (l.take k) := ⟨_, rfl⟩
      rw [← hy] at hc Htk HS HT
      rw [← hs'] at hs HS
      rw [← hb'] at hb HS
      rw [← hs', ← hb']
      clear hy hs' hb'
      have hbd := reven_bd b p q hb.1 v3 v4 v1
      go_wp2_with fail
      refine (implRoundEven_yes b p q _ hb hv).mono ?_
      rintro e w3 ⟨rfl, hbb⟩
      have X3 := hide (below_box hbb hz HX.out)
      have hz3 := Nat.lt_of_lt_of_le hz hbb.size
      have B3 := hide (HB.out.trans (hbb.mono HB.out.size))
      have D3 := hide (HD.out.trans (hbb.mono HD.out.size))
      clear hbb hc c0 c1 HX HB HD hz
      obtain ⟨t, ht⟩ : ∃ t, t = reven b p q := ⟨_, rfl⟩
      rw [← ht] at hbd HS
      rw [← ht]
      clear ht
      go_wp2
      go_roundw
      case rel => exact ⟨k + 1, hlt, by go_num, by rw [Htk.out, HS.out], by rw [Htk.out, HT.out], X3.out, hz3, B3.out, D3.out⟩
      case measure => simp [intOf]; omega
    · have Hl := hide (show l.take k = l from List.take_of_length_le (by omega))
      rw [Hl.out] at hs hb ⊢
      by_cases hp : 0 < lastOr n l
      · have HF := hide (show (-1 : Int) = interest p q pay n by rw [HI.out, if_pos hp])
        clear HI HA
        obtain ⟨b, hb'⟩ : ∃ s, s = lastOr n l := ⟨_, rfl⟩
        rw [← hb'] at hb hp ⊢
        clear hb'
        go_wp2
        go_ret
        exact ⟨ret_int HF.out, HB.out⟩
      · have HF := hide (show sumInt p q n l = interest p q pay n by rw [HI.out, if_neg hp])
        clear HI HA
        obtain ⟨b, hb'⟩ : ∃ s, s = lastOr n l := ⟨_, rfl⟩
        rw [← hb'] at hb hp ⊢
        clear hb'
        go_wp2
        go_ret
        exact ⟨ret_int HF.out, HB.out⟩
theorem implInterestOf_no (n p q pay : Int) (w : World) (h : ¬ (VA n ∧ VR p q ∧ VA pay)) : Calls Try.prog 31 #[.int .i64 n, .agg #[.int .i64 p, .int .i64 q], .int .i64 pay] w (RetInt (-1) w) := by
  by_cases hn : VA n
  · by_cases hv : VR p q
    · have hpay : ¬ VA pay := fun x => h ⟨hn, hv, x⟩
      clear h
      go_enter Try.func31, Try.ntmps31
      go_wp2_with fail
      refine (implAmt_yes _ _ hn).mono ?_
      rintro e w' ⟨rfl, rfl⟩
      go_wp2_with fail
      refine (implValidRate_yes p q _ hv).mono ?_
      rintro e w1 ⟨rfl, hb⟩
      have B1 := hide (((Below.refl _ _).alloc (Nat.le_refl _) _).trans (hb.mono (by simp)))
      clear hb
      go_wp2_with fail
      refine (implAmt_no _ _ hpay).mono ?_
      rintro e w' ⟨rfl, rfl⟩
      clear hpay
      go_wp2
      go_ret
      exact ⟨rfl, B1.out⟩
    · clear h
      go_enter Try.func31, Try.ntmps31
      go_wp2_with fail
      refine (implAmt_yes _ _ hn).mono ?_
      rintro e w' ⟨rfl, rfl⟩
      go_wp2_with fail
      refine (implValidRate_no p q _ hv).mono ?_
      rintro e w1 ⟨rfl, hb⟩
      have B1 := hide (((Below.refl _ _).alloc (Nat.le_refl _) _).trans (hb.mono (by simp)))
      clear hb hv
      go_wp2
      go_ret
      exact ⟨rfl, B1.out⟩
  · clear h
    go_enter Try.func31, Try.ntmps31
    go_wp2_with fail
    refine (implAmt_no _ _ hn).mono ?_
    rintro e w' ⟨rfl, rfl⟩
    clear hn
    go_wp2
    go_ret
    exact ⟨rfl, (Below.refl _ _).alloc (Nat.le_refl _) _⟩

set_option maxHeartbeats 2000000 in
theorem specInterestOf_yes (n p q pay : Int) (w : World) (hn : VA n) (hv : VR p q) (hpay : VA pay) : Calls Try.prog 32 #[.int .i64 n, .agg #[.int .i64 p, .int .i64 q], .int .i64 pay] w (RetInt (interest p q pay n) w) := by
  obtain ⟨v1, v2, v3, v4⟩ := id hv
  obtain ⟨n1, n2⟩ := id hn
  go_enter Try.func32, Try.ntmps32
  go_wp2_with fail
  refine (validLoan_yes n p q pay _ hn hv hpay).mono ?_
  rintro e w1 ⟨rfl, hb⟩
  have X1 := hide (below_box hb (by simp) (box_new w _ _))
  have hz1 : w.heap.size < w1.heap.size := by have := hb.size; simp at this; omega
  have B1 := hide (((Below.refl _ _).alloc (Nat.le_refl _) _).trans (hb.mono (by simp)))
  clear hb
  obtain ⟨c0, c1, _, _⟩ := box2 X1.out
  go_wp2_with fail
  refine (balances_any n p q pay 60 _ hn hv hpay (by omega)).mono ?_
  rintro e w2 ⟨sa, cap, rfl, hr, hb⟩
  have X2 := hide (below_box hb hz1 X1.out)
  have hz2 := Nat.lt_of_lt_of_le hz1 hb.size
  have B2 := hide (B1.out.trans (hb.mono B1.out.size))
  have L2 := hide hr.lst
  clear hb c0 c1 X1 B1 hz1 hr
  have hlen := bal_len p q pay 60 n
  have hlast := hide (bal_last p q pay 60 n)
  have hpos := hide (bal_pos p q pay n)
  have hzero := hide (bal_stop p q pay n 60)
  have HI := hide (show interest p q pay n = if ∀ x ∈ bal p q pay 60 n, 0 ≤ x ∧ x ≤ 1000000 then (if 0 < lastOr n (bal p q pay 60 n) then -1 else sumInt p q n (bal p q pay 60 n)) else -1 from rfl)
  obtain ⟨l, hl⟩ : ∃ l, l = bal p q pay 60 n := ⟨_, rfl⟩
  rw [← hl] at hlen L2 hlast hpos HI hzero
  rw [← hl]
  clear hl
  go_wp2_with fail
  refine (allIn_any sa cap l 0 1000000 _ L2.out (by omega)).mono ?_
  rintro e w' ⟨rfl, rfl⟩
  by_cases ha : ∀ x ∈ l, 0 ≤ x ∧ x ≤ 1000000
  · have HA := hide ha
    rw [decide_eq_true ha]
    have HJ := hide (show interest p q pay n = if 0 < lastOr n l then -1 else sumInt p q n l by rw [HI.out, if_pos ha])
    clear HI ha
    have hb := lastOr_in l n n1 n2 HA.out
    by_cases hbad : 0 < n ∧ 0 < lastOr n l
    · obtain ⟨hn0, hl0⟩ := hbad
      have hne := hpos.out hn0 n2
      have hlp : 0 < l.length := List.length_pos_iff.2 hne
      obtain ⟨g, off, rfl, hg, hc⟩ := L2.out.at (k := l.length - 1) (by omega)
      have he := hlast.out hne
      rw [← he] at hc
      have hcast : ((l.length - 1 : Nat) : Int) = (l.length : Int) - 1 := by omega
      have hnat : ((l.length : Int) - 1).toNat = l.length - 1 := by omega
      have HF := hide (show (-1 : Int) = interest p q pay n by rw [HJ.out, if_pos hl0])
      have hi0 : 0 ≤ (l.length : Int) - 1 := by omega
      have hi1 : (l.length : Int) - 1 < (l.length : Int) := by omega
      obtain ⟨b, hb'⟩ : ∃ s, s = lastOr n l := ⟨_, rfl⟩
      rw [← hb'] at hc hl0 hb
      clear hb' HJ HA he hcast hlast hpos hzero hne
      go_wp2
      go_ret
      exact ⟨ret_int HF.out, B2.out⟩
    · have hgood : ¬ 0 < lastOr n l := by
        intro h
        by_cases h0 : 0 < n
        · exact hbad ⟨h0, h⟩
        · have := hzero.out (by omega)
          subst this
          simp [lastOr] at h; omega
      have HF := hide (show sumInt p q n l = interest p q pay n by rw [HJ.out, if_neg hgood])
      clear HJ hbad
      rcases Classical.em (0 < n) with hn0 | hn0
      case' inl =>
        have hne := hpos.out hn0 n2
        have hlp : 0 < l.length := List.length_pos_iff.2 hne
        obtain ⟨g, off, rfl, hg, hc⟩ := L2.out.at (k := l.length - 1) (by omega)
        have he := hlast.out hne
        rw [← he] at hc
        have hnat : ((l.length : Int) - 1).toNat = l.length - 1 := by omega
        have hi0 : 0 ≤ (l.length : Int) - 1 := by omega
        have hi1 : (l.length : Int) - 1 < (l.length : Int) := by omega
        obtain ⟨b, hb'⟩ : ∃ s, s = lastOr n l := ⟨_, rfl⟩
        rw [← hb'] at hc hgood hb
        clear hb' he hlast hpos hzero hne
        go_wp2
        clear hc hnat hi0 hi1 hgood hb
      case' inr =>
        clear hgood hb hlast hpos hzero
        go_wp2
      all_goals
        go_loopw [8, 9, 10] (fun a b i wr => ∃ k : Nat, k ≤ l.length ∧ i = .int .i64 k ∧ a = .int .i64 (sumInt p q n (l.take k)) ∧ b = .int .i64 (lastOr n (l.take k)) ∧ wr.heap[w.heap.size]? = some (.cells #[.int .i64 p, .int .i64 q] 24 (0, 0)) ∧ w.heap.size < wr.heap.size ∧ Below w.heap.size w wr ∧ Below w2.heap.size w2 wr)
          (fun _ _ i _ => l.length - (intOf i).toNat)
        case atStart => exact ⟨0, Nat.zero_le _, rfl, rfl, rfl, X2.out, hz2, B2.out, Below.refl _ _⟩
        case round =>
          clear X2 B2 hz2
          obtain ⟨k, hk, rfl, rfl, rfl, hx, hz, hB, hD⟩ := hrel
          have HB := hide hB
          have HD := hide hD
          have HX := hide hx
          clear hB hx hD
          have hin : ∀ x ∈ l.take k, 0 ≤ x ∧ x ≤ 1000000 := fun x hx => HA.out x (List.mem_of_mem_take hx)
          have hs := sumInt_in p q v3 v4 v1 (l.take k) n n1 n2 hin
          have hb := lastOr_in (l.take k) n n1 n2 hin
          have htl : (l.take k).length ≤ k := List.length_take_le _ _
          clear hin
          by_cases hlt : k < l.length
          · have Htk := hide (show l.take (k + 1) = l.take k ++ [l.getD k 0] by rw [List.take_succ_eq_append_getElem hlt, List.getD_eq_getElem?_getD, List.getElem?_eq_getElem hlt]; rfl)
            have HS := hide (sumInt_snoc p q (l.take k) n (l.getD k 0))
            have HT := hide (lastOr_snoc (l.take k) n (l.getD k 0))
            obtain ⟨g', off', he', hg', hc⟩ := (L2.out.keep HD.out).at hlt
            cases he'
            obtain ⟨c0, c1, _, _⟩ := box2 HX.out
            obtain ⟨y, hy⟩ : ∃ y, y = l.getD k 0 := ⟨_, rfl⟩
            obtain ⟨s, hs'⟩ : ∃ s, s = sumInt p q n (l.take k) := ⟨_, rfl⟩
            obtain ⟨b, hb'⟩ : ∃ s, s = lastOr n (l.take k) := ⟨_, rfl⟩
            rw [← hy] at hc Htk HS HT
            rw [← hs'] at hs HS
            rw [← hb'] at hb HS
            rw [← hs', ← hb']
            clear hy hs' hb'
            have hbd := reven_bd b p q hb.1 v3 v4 v1
            go_wp2_with fail
            refine (even_any b p q _ hb.1 (by omega) hv).mono ?_
            rintro e w3 ⟨rfl, hbb⟩
            have X3 := hide (below_box hbb hz HX.out)
            have hz3 := Nat.lt_of_lt_of_le hz hbb.size
            have B3 := hide (HB.out.trans (hbb.mono HB.out.size))
            have D3 := hide (HD.out.trans (hbb.mono HD.out.size))
            have hc' := (hbb.cell (p := ⟨_, _, none⟩) hg').trans hc
            clear hbb hc c0 c1 HX HB HD hz
            obtain ⟨t, ht⟩ : ∃ t, t = reven b p q := ⟨_, rfl⟩
            rw [← ht] at hbd HS
            rw [← ht]
            clear ht
            go_wp2
            go_roundw
            case rel => exact ⟨k + 1, hlt, by go_num, by rw [Htk.out, HS.out], by rw [Htk.out, HT.out], X3.out, hz3, B3.out, D3.out⟩
            case measure => simp [intOf]; omega
          · have Hl := hide (show l.take k = l from List.take_of_length_le (by omega))
            rw [Hl.out] at hs hb ⊢
            go_wp2
            go_ret
            exact ⟨ret_int HF.out, HB.out⟩
  · have HF := hide (show (-1 : Int) = interest p q pay n by rw [HI.out, if_neg ha])
    rw [decide_eq_false ha]
    clear HI ha
    go_wp2
    go_ret
    exact ⟨ret_int HF.out, B2.out⟩
theorem specInterestOf_no (n p q pay : Int) (w : World) (h : ¬ (VA n ∧ VR p q ∧ VA pay)) : Calls Try.prog 32 #[.int .i64 n, .agg #[.int .i64 p, .int .i64 q], .int .i64 pay] w (RetInt (-1) w) := by
  go_enter Try.func32, Try.ntmps32
  go_wp2_with fail
  refine (validLoan_no n p q pay _ h).mono ?_
  rintro e w1 ⟨rfl, hb⟩
  have B1 := hide (((Below.refl _ _).alloc (Nat.le_refl _) _).trans (hb.mono (by simp)))
  clear hb h
  go_wp2
  go_ret
  exact ⟨rfl, B1.out⟩
end Go.Proofs.Ytmoefeifaiimaab
