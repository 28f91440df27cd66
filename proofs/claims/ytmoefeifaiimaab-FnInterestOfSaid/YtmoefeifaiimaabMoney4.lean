/- Chapter 1's payments: the program's owedNext and OwedAfter. -/
import Derived.Test.YtmoefeifaiimaabMoney3
namespace Go.Proofs.Ytmoefeifaiimaab
open Go.ChangeShapes Go.WideShapes Go.ChangeAt Go.RowKit Go.Joins
set_option linter.unusedVariables false

theorem owedNext_any (n p q pay : Int) (w : World) (hn : VA n) (hv : VR p q) (hpay0 : 0 ≤ pay) (hpay1 : pay ≤ 4000000) : Calls Try.prog 50 #[.int .i64 n, .agg #[.int .i64 p, .int .i64 q], .int .i64 pay] w (RetInt (onext p q pay n) w) := by
  obtain ⟨v1, v2, v3, v4⟩ := id hv
  obtain ⟨n1, n2⟩ := id hn
  have hbd := reven_bd n p q n1 v3 v4 v1
  go_enter Try.func50, Try.ntmps50
  go_wp2_with fail
  refine (implRoundEven_yes n p q _ hn hv).mono ?_
  rintro e w1 ⟨rfl, hb⟩
  have B1 := hide (((Below.refl _ _).alloc (Nat.le_refl _) _).trans (hb.mono (by simp)))
  clear hb
  have HM := hide (show onext p q pay n = max 0 (n + reven n p q - pay) from rfl)
  obtain ⟨t, ht⟩ : ∃ t, t = reven n p q := ⟨_, rfl⟩
  rw [← ht] at hbd HM
  rw [← ht]
  clear ht
  by_cases hle : n + t ≤ pay
  · have HF := hide (show (0 : Int) = onext p q pay n by rw [HM.out]; omega)
    clear HM
    go_wp2
    go_ret
    exact ⟨ret_int HF.out, B1.out⟩
  · have HF := hide (show n + t - pay = onext p q pay n by rw [HM.out]; omega)
    clear HM
    go_wp2
    go_ret
    exact ⟨ret_int HF.out, B1.out⟩

set_option maxHeartbeats 2000000 in
theorem implOwedAfter_yes (n p q pay : Int) (w : World) (hn : VA n) (hv : VR p q) (hpay : VA pay) : Calls Try.prog 19 #[.int .i64 n, .agg #[.int .i64 p, .int .i64 q], .int .i64 pay] w (RetList (owedL p q pay n) w) := by
  obtain ⟨v1, v2, v3, v4⟩ := id hv
  obtain ⟨s1, s2⟩ := id hpay
  go_enter Try.func19, Try.ntmps19
  go_wp2_with fail
  refine (implAmt_yes _ _ hn).mono ?_
  rintro e w' ⟨rfl, rfl⟩
  go_wp2_with fail
  refine (implValidRate_yes p q _ hv).mono ?_
  rintro e w1 ⟨rfl, hb⟩
  have X1 := hide (below_box hb (by simp) (box_new w _ _))
  have hz1 : w.heap.size + 1 ≤ w1.heap.size := by have := hb.size; simp at this; omega
  have B1 := hide (((Below.refl _ _).alloc (Nat.le_refl _) _).trans (hb.mono (by simp)))
  clear hb
  go_wp2_with fail
  refine (implAmt_yes _ _ hpay).mono ?_
  rintro e w' ⟨rfl, rfl⟩
  go_wp2
  go_loopw [0, 7] (fun a v wr => ∃ (m : Int) (o : List Int) (sa : Option Addr) (cap : Nat), o.length ≤ 60 ∧ a = .int .i64 m ∧ 0 ≤ m ∧ m ≤ 1000000 ∧ (∀ x ∈ o, 0 ≤ x ∧ x ≤ 1000000) ∧ v = .slice sa o.length cap ∧ Row (w.heap.size + 1) wr sa cap o ∧ o ++ bal p q pay (60 - o.length) m = bal p q pay 60 n ∧
      wr.heap[w.heap.size]? = some (.cells #[.int .i64 p, .int .i64 q] 24 (0, 0)) ∧ w.heap.size + 1 ≤ wr.heap.size ∧ Below w.heap.size w wr)
    (fun _ v _ => 60 - lenOf v)
  case atStart => exact ⟨n, [], _, _, Nat.zero_le _, rfl, hn.1, hn.2, by simp, rfl, Row.nil _ _, rfl, X1.out, hz1, B1.out⟩
  case round =>
    clear X1 B1 hz1
    obtain ⟨m, o, sa, cap, hk, rfl, hm0, hm1, hall, rfl, hr, hbal, hx, hz, hB⟩ := hrel
    have HB := hide hB
    have HX := hide hx
    have HR := hide hr
    have HL := hide hbal
    have HA := hide hall
    clear hB hx hr hbal hall
    have hend : ∀ m, Hid (bal p q pay (60 - o.length) m = []) → Hid (o ++ bal p q pay (60 - o.length) m = bal p q pay 60 n) → Hid (owedL p q pay n = o) := fun m h1 h2 => by
      have h2 := h2.out
      rw [h1.out, List.append_nil] at h2
      show owedL p q pay n = o
      unfold owedL; rw [← h2, if_pos HA.out]
    by_cases hmp : 0 < m
    · by_cases hlt : o.length < 60
      · obtain ⟨c0, c1, _, _⟩ := box2 HX.out
        have HS := hide (show bal p q pay (60 - o.length) m = onext p q pay m :: bal p q pay (60 - (o.length + 1)) (onext p q pay m) by
          rw [show 60 - o.length = (60 - (o.length + 1)) + 1 by omega]; simp only [bal]; rw [if_pos ⟨hmp, hm1⟩])
        have hle := onext_le p q pay m hm0 s1 v3 v4 v1
        have hnn := onext_nn p q pay m
        clear hend
        go_wp2_with fail
        refine (owedNext_any m p q pay _ ⟨hm0, hm1⟩ hv s1 (by omega)).mono ?_
        rintro e w1 ⟨rfl, hb⟩
        have X1 := hide (below_box hb hz HX.out)
        have R1 := hide (HR.out.keep hb)
        have hz1' := Nat.le_trans hz hb.size
        have B1 := hide (HB.out.trans (hb.mono HB.out.size))
        clear hb c0 c1 HX HB HR
        obtain ⟨x, hx⟩ : ∃ x, x = onext p q pay m := ⟨_, rfl⟩
        rw [← hx] at hle hnn HS
        rw [← hx]
        clear hx
        have HN := hide (show (o ++ [x]) ++ bal p q pay (60 - (o ++ [x]).length) x = bal p q pay 60 n by
          have := HL.out
          rw [HS.out] at this
          rw [← this, List.length_append, List.append_assoc]; rfl)
        by_cases hbig : 1000000 < x
        · have HF := hide (show owedL p q pay n = [] by
            unfold owedL; rw [if_neg]
            intro hall
            have := (hall x (by rw [← HN.out]; simp)).2
            omega)
          clear HL HS HN HA
          go_wp2
          go_ret
          exact RetList.of (base := 0) HF.out (Row.nil _ _) B1.out
        · have HA2 := hide (show ∀ y ∈ o ++ [x], 0 ≤ y ∧ y ≤ 1000000 by
            intro y hy
            rcases List.mem_append.1 hy with hy | hy
            · exact HA.out y hy
            · rw [List.mem_singleton.1 hy]; omega)
          clear HL HS HA
          go_wp2_with (first | (at_builtin; refine append_int rfl _ _ rfl (w.heap.size + 1) w1 _ _ o _ _ rfl rfl R1.out (by omega) (by omega) ?_; intro g cap' w2 R2 hb2))
          have X2 := hide (below_box hb2 (Nat.lt_succ_self _) X1.out)
          have B2 := hide (B1.out.trans (hb2.mono (Nat.le_succ _)))
          have hz2' := Nat.le_trans hz1' hb2.size
          have HR2 := hide R2
          clear R2 hb2 X1 B1 R1
          go_wp2
          go_roundw
          case rel => exact ⟨_, o ++ [_], _, _, by rw [List.length_append]; exact hlt, rfl, by omega, by omega, HA2.out, by rw [List.length_append]; rfl, HR2.out, HN.out, X2.out, hz2', B2.out⟩
          case measure => simp [lenOf]; omega
      · have hd : decide (o.length < 60) = false := decide_eq_false hlt
        have HF := hend m (hide (by rw [show 60 - o.length = 0 by omega]; rfl)) HL
        clear hend HA
        go_wp2
        go_ret
        exact RetList.of HF.out HR.out HB.out
    · have HF := hend m (hide (bal_stop _ _ _ _ _ (by omega))) HL
      clear hend HA
      go_wp2
      go_ret
      exact RetList.of HF.out HR.out HB.out
theorem implOwedAfter_no (n p q pay : Int) (w : World) (h : ¬ (VA n ∧ VR p q ∧ VA pay)) : Calls Try.prog 19 #[.int .i64 n, .agg #[.int .i64 p, .int .i64 q], .int .i64 pay] w (RetList [] w) := by
  by_cases hn : VA n
  · by_cases hv : VR p q
    · have hpay : ¬ VA pay := fun x => h ⟨hn, hv, x⟩
      clear h
      go_enter Try.func19, Try.ntmps19
      go_wp2_with fail
      refine (implAmt_yes _ _ hn).mono ?_
      rintro e w' ⟨rfl, rfl⟩
      go_wp2_with fail
      refine (implValidRate_yes p q _ hv).mono ?_
      rintro e w1 ⟨rfl, hb⟩
      have B1 := hide (((Below.refl _ _).alloc (Nat.le_refl _) _).trans (hb.mono (by simp)))
      clear hb
      go_wp2_with fail
      refine (implAmt_no _ _ hpay).mono ?_
      rintro e w' ⟨rfl, rfl⟩
      clear hpay
      go_wp2
      go_ret
      exact RetList.of (base := 0) rfl (Row.nil _ _) B1.out
    · clear h
      go_enter Try.func19, Try.ntmps19
      go_wp2_with fail
      refine (implAmt_yes _ _ hn).mono ?_
      rintro e w' ⟨rfl, rfl⟩
      go_wp2_with fail
      refine (implValidRate_no p q _ hv).mono ?_
      rintro e w1 ⟨rfl, hb⟩
      have B1 := hide (((Below.refl _ _).alloc (Nat.le_refl _) _).trans (hb.mono (by simp)))
      clear hb hv
      go_wp2
      go_ret
      exact RetList.of (base := 0) rfl (Row.nil _ _) B1.out
  · clear h
    go_enter Try.func19, Try.ntmps19
    go_wp2_with fail
    refine (implAmt_no _ _ hn).mono ?_
    rintro e w' ⟨rfl, rfl⟩
    clear hn
    go_wp2
    go_ret
    exact RetList.of (base := 0) rfl (Row.nil _ _) ((Below.refl _ _).alloc (Nat.le_refl _) _)
end Go.Proofs.Ytmoefeifaiimaab
