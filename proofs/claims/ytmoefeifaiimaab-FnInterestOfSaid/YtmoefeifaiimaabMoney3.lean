/- Chapter 1's payments: what is owed after each period. -/
import Derived.Test.YtmoefeifaiimaabMoney1
import Derived.Test.YtmoefeifaiimaabLists
namespace Go.Proofs.Ytmoefeifaiimaab
open Go.ChangeShapes Go.WideShapes Go.ChangeAt Go.RowKit Go.Joins
set_option linter.unusedVariables false

set_option maxHeartbeats 2000000 in
theorem balances_any (n p q pay : Int) (P : Nat) (w : World) (hn : VA n) (hv : VR p q) (hpay : VA pay) (hP : P ≤ 60) :
    Calls Try.prog 52 #[.int .i64 n, .agg #[.int .i64 p, .int .i64 q], .int .i64 pay, .int .i64 P] w (RetList (bal p q pay P n) w) := by
  obtain ⟨v1, v2, v3, v4⟩ := id hv
  obtain ⟨s1, s2⟩ := id hpay
  obtain ⟨i0, hi, hz0, hz1, hz2⟩ := info_parts Try.infoInt
  go_enter Try.func52, Try.ntmps52
  go_wp2
  go_loopw [0, 9, 10] (fun a v i wr => ∃ (m : Int) (o : List Int) (sa : Option Addr) (cap : Nat), o.length ≤ P ∧ i = .int .i64 o.length ∧ a = .int .i64 m ∧ 0 ≤ m ∧ m ≤ 2000000 ∧ v = .slice sa o.length cap ∧ Row (w.heap.size + 1) wr sa cap o ∧ o ++ bal p q pay (P - o.length) m = bal p q pay P n ∧
      wr.heap[w.heap.size]? = some (.cells #[.int .i64 p, .int .i64 q] 24 (0, 0)) ∧ w.heap.size + 1 ≤ wr.heap.size ∧ Below w.heap.size w wr)
    (fun _ _ i _ => P - (intOf i).toNat)
  case atStart => exact ⟨n, [], _, _, Nat.zero_le _, rfl, rfl, hn.1, by have := hn.2; omega, rfl, Row.madeAt _ _ _ (by first | omega | (simp; done) | (simp; omega)) (by first | exact Nat.le_refl _ | omega | (simp; done) | (simp; omega)), rfl, box_alloc (by simp) (box_new w _ _) _, by first | omega | (simp; done) | (simp; omega), ((Below.refl _ _).alloc (Nat.le_refl _) _).alloc (by first | exact Nat.le_refl _ | omega | (simp; done) | (simp; omega)) _⟩
  case round =>
    obtain ⟨m, o, sa, cap, hk, rfl, rfl, hm0, hm1, rfl, hr, hbal, hx, hz, hB⟩ := hrel
    have HB := hide hB
    have HX := hide hx
    have HR := hide hr
    have HL := hide hbal
    clear hB hx hr hbal
    have hend : ∀ m, Hid (bal p q pay (P - o.length) m = []) → Hid (o ++ bal p q pay (P - o.length) m = bal p q pay P n) → Hid (bal p q pay P n = o) := fun m h1 h2 => by
      have h2 := h2.out
      rw [h1.out, List.append_nil] at h2; exact h2.symm
    by_cases hlt : o.length < P
    · by_cases hmp : 0 < m
      · by_cases hmb : m ≤ 1000000
        · obtain ⟨c0, c1, _, _⟩ := box2 HX.out
          have HS := hide (show bal p q pay (P - o.length) m = onext p q pay m :: bal p q pay (P - (o.length + 1)) (onext p q pay m) by
            rw [show P - o.length = (P - (o.length + 1)) + 1 by omega]; simp only [bal]; rw [if_pos ⟨hmp, hmb⟩])
          have hle := onext_le p q pay m hm0 s1 v3 v4 v1
          have hnn := onext_nn p q pay m
          have hbd := reven_bd m p q hm0 v3 v4 v1
          clear hend
          go_wp2_with fail
          refine (even_any m p q _ hm0 (by omega) hv).mono ?_
          rintro e w1 ⟨rfl, hb⟩
          have X1 := hide (below_box hb hz HX.out)
          have R1 := hide (HR.out.keep hb)
          have hz1' := Nat.le_trans hz hb.size
          have B1 := hide (HB.out.trans (hb.mono HB.out.size))
          clear hb c0 c1 HX HB HR
          have HM := hide (show onext p q pay m = max 0 (m + reven m p q - pay) from rfl)
          obtain ⟨t, ht⟩ : ∃ t, t = reven m p q := ⟨_, rfl⟩
          obtain ⟨x, hx⟩ : ∃ x, x = onext p q pay m := ⟨_, rfl⟩
          rw [← ht] at hbd HM
          rw [← hx] at hle hnn HS HM
          rw [← ht]
          clear ht hx
          have HN := hide (show (o ++ [x]) ++ bal p q pay (P - (o ++ [x]).length) x = bal p q pay P n by
            have := HL.out
            rw [HS.out] at this
            rw [← this, List.length_append, List.append_assoc]; rfl)
          clear HL HS
          have hxv : (0 < m + t - pay ∧ x = m + t - pay) ∨ (m + t - pay ≤ 0 ∧ x = 0) := by have := HM.out; omega
          clear HM
          rcases hxv with ⟨hneg, rfl⟩ | ⟨hneg, rfl⟩
          all_goals
            go_wp2_with (first | (at_builtin; refine append_int rfl _ _ rfl (w.heap.size + 1) w1 _ _ o _ _ rfl rfl R1.out (by omega) (by omega) ?_; intro g cap' w2 R2 hb2))
            have X2 := hide (below_box hb2 (Nat.lt_succ_self _) X1.out)
            have B2 := hide (B1.out.trans (hb2.mono (Nat.le_succ _)))
            have hz2' := Nat.le_trans hz1' hb2.size
            have HR2 := hide R2
            clear R2 hb2 X1 B1 R1
            go_wp2
            go_roundw
            case rel => exact ⟨_, o ++ [_], _, _, by rw [List.length_append]; exact hlt, by rw [List.length_append]; rfl, rfl, by omega, by omega, by rw [List.length_append]; rfl, HR2.out, HN.out, X2.out, hz2', B2.out⟩
            case measure => simp [intOf]; omega
        · have HF := hend m (hide (bal_stop _ _ _ _ _ (by omega))) HL
          clear hend
          go_wp2
          go_ret
          exact RetList.of HF.out HR.out HB.out
      · have HF := hend m (hide (bal_stop _ _ _ _ _ (by omega))) HL
        clear hend
        go_wp2
        go_ret
        exact RetList.of HF.out HR.out HB.out
    · have HF := hend m (hide (by rw [show P - o.length = 0 by omega]; rfl)) HL
      clear hend
      go_wp2
      go_ret
      exact RetList.of HF.out HR.out HB.out

set_option maxHeartbeats 1000000 in
theorem allIn_any (sa : Option Addr) (cap : Nat) (l : List Int) (lo hi : Int) (w : World) (h : Lst w sa l) (hl : l.length ≤ 1000000) :
    Calls Try.prog 53 #[.slice sa l.length cap, .int .i64 lo, .int .i64 hi] w fun e w' => e = .returned (.bool (decide (∀ x ∈ l, lo ≤ x ∧ x ≤ hi))) ∧ w = w' := by
  have H := hide h
  clear h
  go_enter Try.func53, Try.ntmps53
  go_wp2
  go_loop [7] (fun i => ∃ k : Nat, k ≤ l.length ∧ i = .int .i64 k ∧ ∀ x ∈ l.take k, lo ≤ x ∧ x ≤ hi) (fun i => l.length - (intOf i).toNat)
  case atStart => exact ⟨0, Nat.zero_le _, rfl, by simp⟩
  case round =>
    obtain ⟨k, hk, rfl, ht⟩ := hrel
    have HT := hide ht
    clear ht
    by_cases hlt : k < l.length
    · obtain ⟨g, off, rfl, hg, hc⟩ := H.out.at hlt
      have Hmem := hide (show l.getD k 0 ∈ l by rw [List.getD_eq_getElem?_getD, List.getElem?_eq_getElem hlt]; exact List.getElem_mem _)
      have Htk := hide (show l.take (k + 1) = l.take k ++ [l.getD k 0] by rw [List.take_succ_eq_append_getElem hlt, List.getD_eq_getElem?_getD, List.getElem?_eq_getElem hlt]; rfl)
      obtain ⟨y, hy⟩ : ∃ y, y = l.getD k 0 := ⟨_, rfl⟩
      rw [← hy] at hc Hmem Htk
      clear hy
      by_cases hin : lo ≤ y ∧ y ≤ hi
      · go_wp2_with fail
        refine (specInRange_yes _ _ _ _ hin.1 hin.2).mono ?_
        rintro e w' ⟨rfl, rfl⟩
        have HN := hide (show ∀ x ∈ l.take (k + 1), lo ≤ x ∧ x ≤ hi by
          rw [Htk.out]; intro x hx
          rcases List.mem_append.1 hx with hx | hx
          · exact HT.out x hx
          · rw [List.mem_singleton.1 hx]; exact hin)
        clear hin
        go_wp2
        go_round
        case rel => exact ⟨k + 1, hlt, by go_num, HN.out⟩
        case measure => simp [intOf]; omega
      · have HF := hide (show decide (∀ x ∈ l, lo ≤ x ∧ x ≤ hi) = false from decide_eq_false fun h => hin (h y Hmem.out))
        go_wp2_with fail
        refine (specInRange_no _ _ _ _ hin).mono ?_
        rintro e w' ⟨rfl, rfl⟩
        clear hin
        go_wp2
        go_ret
        exact ⟨ret_bool HF.out.symm, rfl⟩
    · have HF := hide (show decide (∀ x ∈ l, lo ≤ x ∧ x ≤ hi) = true from decide_eq_true (by have := HT.out; rw [List.take_of_length_le (by omega)] at this; exact this))
      go_wp2
      go_ret
      exact ⟨ret_bool HF.out.symm, rfl⟩

theorem validLoan_yes (n p q pay : Int) (w : World) (hn : VA n) (hv : VR p q) (hpay : VA pay) : Calls Try.prog 51 #[.int .i64 n, .agg #[.int .i64 p, .int .i64 q], .int .i64 pay] w (RetBool true w) := by
  go_enter Try.func51, Try.ntmps51
  go_wp2_with fail
  refine (specAmt_yes _ _ hn).mono ?_
  rintro e w' ⟨rfl, rfl⟩
  go_wp2_with fail
  refine (specvRate_yes _ _ _ hv).mono ?_
  rintro e w1 ⟨rfl, hb⟩
  have B1 := hide (((Below.refl _ _).alloc (Nat.le_refl _) _).trans (hb.mono (by simp)))
  clear hb
  go_wp2_with fail
  refine (specInRange_yes _ _ _ _ hpay.1 hpay.2).mono ?_
  rintro e w' ⟨rfl, rfl⟩
  go_wp2
  go_ret
  exact ⟨rfl, B1.out⟩
theorem validLoan_no (n p q pay : Int) (w : World) (h : ¬ (VA n ∧ VR p q ∧ VA pay)) : Calls Try.prog 51 #[.int .i64 n, .agg #[.int .i64 p, .int .i64 q], .int .i64 pay] w (RetBool false w) := by
  by_cases hn : VA n
  · by_cases hv : VR p q
    · have hpay : ¬ (0 ≤ pay ∧ pay ≤ 1000000) := fun x => h ⟨hn, hv, x⟩
      clear h
      go_enter Try.func51, Try.ntmps51
      go_wp2_with fail
      refine (specAmt_yes _ _ hn).mono ?_
      rintro e w' ⟨rfl, rfl⟩
      go_wp2_with fail
      refine (specvRate_yes _ _ _ hv).mono ?_
      rintro e w1 ⟨rfl, hb⟩
      have B1 := hide (((Below.refl _ _).alloc (Nat.le_refl _) _).trans (hb.mono (by simp)))
      clear hb
      go_wp2_with fail
      refine (specInRange_no _ _ _ _ hpay).mono ?_
      rintro e w' ⟨rfl, rfl⟩
      clear hpay
      go_wp2
      go_ret
      exact ⟨rfl, B1.out⟩
    · clear h
      go_enter Try.func51, Try.ntmps51
      go_wp2_with fail
      refine (specAmt_yes _ _ hn).mono ?_
      rintro e w' ⟨rfl, rfl⟩
      go_wp2_with fail
      refine (specvRate_no _ _ _ hv).mono ?_
      rintro e w1 ⟨rfl, hb⟩
      have B1 := hide (((Below.refl _ _).alloc (Nat.le_refl _) _).trans (hb.mono (by simp)))
      clear hb hv
      go_wp2
      go_ret
      exact ⟨rfl, B1.out⟩
  · clear h
    go_enter Try.func51, Try.ntmps51
    go_wp2_with fail
    refine (specAmt_no _ _ hn).mono ?_
    rintro e w' ⟨rfl, rfl⟩
    clear hn
    go_wp2
    go_ret
    exact ⟨rfl, (Below.refl _ _).alloc (Nat.le_refl _) _⟩

/-- what is owed after each period, as the document tells it -/
def owedL (p q pay n : Int) : List Int := if ∀ x ∈ bal p q pay 60 n, 0 ≤ x ∧ x ≤ 1000000 then bal p q pay 60 n else []
theorem owedL_len (p q pay n : Int) : (owedL p q pay n).length ≤ 60 := by
  unfold owedL; split
  · exact bal_len _ _ _ _ _
  · simp

theorem specOwedAfter_yes (n p q pay : Int) (w : World) (hn : VA n) (hv : VR p q) (hpay : VA pay) : Calls Try.prog 21 #[.int .i64 n, .agg #[.int .i64 p, .int .i64 q], .int .i64 pay] w (RetList (owedL p q pay n) w) := by
  go_enter Try.func21, Try.ntmps21
  go_wp2_with fail
  refine (validLoan_yes n p q pay _ hn hv hpay).mono ?_
  rintro e w1 ⟨rfl, hb⟩
  have x1 := below_box hb (by simp) (box_new w _ _)
  have B1 := hide (((Below.refl _ _).alloc (Nat.le_refl _) _).trans (hb.mono (by simp)))
  clear hb
  obtain ⟨c0, c1, _, _⟩ := box2 x1
  clear x1
  go_wp2_with fail
  refine (balances_any n p q pay 60 _ hn hv hpay (by omega)).mono ?_
  rintro e w2 ⟨sa, cap, rfl, hr, hb⟩
  have B2 := hide (B1.out.trans (hb.mono B1.out.size))
  have HL := hide hr.lst
  have HR := hide (hr.le B1.out.size)
  clear hb c0 c1 hr
  have hlen := bal_len p q pay 60 n
  go_wp2_with fail
  refine (allIn_any sa cap _ 0 1000000 _ HL.out (by omega)).mono ?_
  rintro e w' ⟨rfl, rfl⟩
  by_cases ha : ∀ x ∈ bal p q pay 60 n, 0 ≤ x ∧ x ≤ 1000000
  · have HF := hide (show owedL p q pay n = bal p q pay 60 n by unfold owedL; rw [if_pos ha])
    rw [decide_eq_true ha]
    clear ha hlen
    go_wp2
    go_ret
    exact RetList.of (base := 0) HF.out HR.out B2.out
  · have HF := hide (show owedL p q pay n = [] by unfold owedL; rw [if_neg ha])
    rw [decide_eq_false ha]
    clear ha hlen
    go_wp2
    go_ret
    exact RetList.of (base := 0) HF.out (Row.nil _ _) B2.out
theorem specOwedAfter_no (n p q pay : Int) (w : World) (h : ¬ (VA n ∧ VR p q ∧ VA pay)) : Calls Try.prog 21 #[.int .i64 n, .agg #[.int .i64 p, .int .i64 q], .int .i64 pay] w (RetList [] w) := by
  go_enter Try.func21, Try.ntmps21
  go_wp2_with fail
  refine (validLoan_no n p q pay _ h).mono ?_
  rintro e w1 ⟨rfl, hb⟩
  have B1 := hide (((Below.refl _ _).alloc (Nat.le_refl _) _).trans (hb.mono (by simp)))
  clear hb h
  go_wp2
  go_ret
  exact RetList.of (base := 0) rfl (Row.nil _ _) B1.out
end Go.Proofs.Ytmoefeifaiimaab
