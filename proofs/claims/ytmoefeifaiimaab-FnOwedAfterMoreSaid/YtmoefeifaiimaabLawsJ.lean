/- Chapter 1: the walk of the law that who pays more owes less. -/
import Derived.Test.YtmoefeifaiimaabLawsG
namespace Go.Proofs.Ytmoefeifaiimaab
open Go.ChangeShapes Go.WideShapes Go.ChangeAt Go.RowKit Go.Joins
set_option linter.unusedVariables false

set_option maxRecDepth 100000 in
set_option maxHeartbeats 1000000 in
theorem walkFnOwedAfterMore (w : World) (sa : Option Addr) (len cap : Nat) (h : Code w sa len cap) (hl : len ≤ maxLen) :
    Calls Try.prog 6 #[.slice sa len cap] w fun e w' => e = .returned (.bool true) ∧ Below w.heap.size w w' := by
  have hl' := hl
  unfold maxLen at hl'
  by_cases hbig : 1048576 < len
  · clear h hl
    go_enter Try.func6, Try.ntmps6
    go_wp2
    go_ret
    exact ⟨rfl, Below.refl _ _⟩
  · go_enter Try.func6, Try.ntmps6
    go_wp2_with fail
    refine (drawOwedAfter_any sa len cap w h hl).mono ?_
    rintro e w1 ⟨n, p, q, pay, rfl, _, _, _, _, _, _, g1, g2, hb⟩
    have B1 := hide hb
    clear hb h hl
    obtain ⟨l, hlen, Hi, Hs, Hp⟩ : ∃ l : List Int, l.length ≤ 60 ∧ Hid (∀ w, Calls Try.prog 19 #[.int .i64 n, .agg #[.int .i64 p, .int .i64 q], .int .i64 pay] w (RetList l w)) ∧ Hid (∀ w, Calls Try.prog 21 #[.int .i64 n, .agg #[.int .i64 p, .int .i64 q], .int .i64 pay] w (RetList l w)) ∧
        Hid (l ≠ [] → VA n ∧ VR p q ∧ VA pay ∧ l = bal p q pay 60 n ∧ ∀ x ∈ l, 0 ≤ x ∧ x ≤ 1000000) := by
      by_cases h : VA n ∧ VR p q ∧ VA pay
      · refine ⟨owedL p q pay n, owedL_len _ _ _ _, fun w => implOwedAfter_yes n p q pay w h.1 h.2.1 h.2.2, fun w => specOwedAfter_yes n p q pay w h.1 h.2.1 h.2.2, fun hne => ⟨h.1, h.2.1, h.2.2, ?_⟩⟩
        unfold owedL at hne ⊢
        split
        · exact ⟨rfl, by assumption⟩
        · rename_i hh; rw [if_neg hh] at hne; exact absurd rfl hne
      · exact ⟨[], by simp, fun w => implOwedAfter_no n p q pay w h, fun w => specOwedAfter_no n p q pay w h, fun hne => absurd rfl hne⟩
    go_wp2_with fail
    refine (Hi.out _).mono ?_
    rintro e w2 ⟨sa2, cap2, rfl, hr, hb⟩
    have X2 := hide (below_box hb (by simp) (box_new w1 _ _))
    have hz2 : w1.heap.size < w2.heap.size := by have := hb.size; simp at this; omega
    have B2 := hide ((B1.out.alloc B1.out.size _).trans (hb.mono (Nat.le_trans B1.out.size (by simp))))
    have L2 := hide hr.lst
    clear hr
    clear hb
    obtain ⟨c0, c1, _, _⟩ := box2 X2.out
    go_wp2_with fail
    refine (Hs.out _).mono ?_
    rintro e w3 ⟨sa3, cap3, rfl, hr, hb⟩
    have X3 := hide (below_box hb hz2 X2.out)
    have hz3 := Nat.lt_of_lt_of_le hz2 hb.size
    have B3 := hide (B2.out.trans (hb.mono B2.out.size))
    have L3 := hide (L2.out.keep hb)
    have M3 := hide hr.lst
    clear hr
    clear hb c0 c1 X2 L2
    obtain ⟨c0, c1, _, _⟩ := box2 X3.out
    go_wp2_with fail
    refine (equalInts_same sa2 sa3 l cap2 cap3 _ L3.out M3.out (by omega)).mono ?_
    rintro e w4 ⟨rfl, hb⟩
    have X4 := hide (below_box hb hz3 X3.out)
    have hz4 := Nat.lt_of_lt_of_le hz3 hb.size
    have B4 := hide (B3.out.trans (hb.mono B3.out.size))
    have L4 := hide (L3.out.keep hb)
    clear hb c0 c1 X3 L3
    obtain ⟨c0, c1, _, _⟩ := box2 X4.out
    by_cases h0 : l.length = 0
    · obtain rfl := List.length_eq_zero_iff.1 h0
      clear Hp Hi
      go_wp2_with fail
      refine (Hs.out _).mono ?_
      rintro e w5 ⟨sa5, cap5, rfl, hr, hb⟩
      have X5 := hide (below_box hb hz4 X4.out)
      have hz5 := Nat.lt_of_lt_of_le hz4 hb.size
      have B5 := hide (B4.out.trans (hb.mono B4.out.size))
      have L5 := hide (L4.out.keep hb)
      have M5 := hide hr.lst
      clear hr
      clear hb c0 c1 X4 L4
      obtain ⟨c0, c1, _, _⟩ := box2 X5.out
      go_wp2_with fail
      refine (equalInts_same sa2 sa5 [] cap2 cap5 _ L5.out M5.out (by simp)).mono ?_
      rintro e w6 ⟨rfl, hb⟩
      have B6 := hide (B5.out.trans (hb.mono B5.out.size))
      clear hb
      go_wp2
      go_ret
      exact ⟨rfl, B6.out⟩
    · have h0' : ((l.length : Int) == 0) = false := by rw [beq_eq_false_iff_ne]; omega
      obtain ⟨ha, hv, hpay, hbal, hall⟩ := Hp.out (by intro h; subst h; simp at h0)
      obtain ⟨v1, v2, v3, v4⟩ := id hv
      have n1 := ha.1
      have n2 := ha.2
      have s1 := hpay.1
      have s2 := hpay.2
      by_cases hmax : pay = 1000000
      · subst hmax
        clear hbal hall Hp
        go_wp2_with fail
        refine (Hs.out _).mono ?_
        rintro e w5 ⟨sa5, cap5, rfl, hr, hb⟩
        have X5 := hide (below_box hb hz4 X4.out)
        have hz5 := Nat.lt_of_lt_of_le hz4 hb.size
        have B5 := hide (B4.out.trans (hb.mono B4.out.size))
        have L5 := hide (L4.out.keep hb)
        have M5 := hide hr.lst
        clear hr
        clear hb c0 c1 X4 L4
        obtain ⟨c0, c1, _, _⟩ := box2 X5.out
        go_wp2_with fail
        refine (equalInts_same sa2 sa5 l cap2 cap5 _ L5.out M5.out (by omega)).mono ?_
        rintro e w6 ⟨rfl, hb⟩
        have B6 := hide (B5.out.trans (hb.mono B5.out.size))
        clear hb
        go_wp2
        go_ret
        exact ⟨rfl, B6.out⟩
      · have hm : ((pay : Int) == 1000000) = false := by rw [beq_eq_false_iff_ne]; exact hmax
        obtain ⟨q1, q2⟩ := bal_more p q pay (pay + 1) v3 v1 (by omega) 60 n n (Int.le_refl _) n2 (by rw [← hbal]; exact fun x hx => (hall x hx).2)
        rw [← hbal] at q1 q2
        have q3 := bal_le_of p q (pay + 1) 60 n l q1 q2 (fun x hx => (hall x hx).2)
        have ho : owedL p q (pay + 1) n = bal p q (pay + 1) 60 n := by unfold owedL; rw [if_pos q3]
        have hnpos : 0 < n := by
          by_cases hh : 0 < n
          · exact hh
          · exfalso
            rw [bal_stop _ _ _ _ _ (by omega)] at hbal
            rw [hbal] at h0; simp at h0
        have hne := bal_pos p q (pay + 1) n hnpos n2
        have Ho := hide (fun w => implOwedAfter_yes n p q (pay + 1) w ha hv ⟨by omega, by omega⟩)
        obtain ⟨l2, hl2⟩ : ∃ l, l = bal p q (pay + 1) 60 n := ⟨_, rfl⟩
        rw [ho, ← hl2] at Ho
        rw [← hl2] at q1 q2 hne
        have hlp : 0 < l2.length := List.length_pos_iff.2 hne
        have h2' : ((l2.length : Int) == 0) = false := by rw [beq_eq_false_iff_ne]; omega
        have Q2 := hide q2
        have hd4 : decide (l.length < l2.length) = false := decide_eq_false (by omega)
        clear hbal hall Hp hl2 ho hne q2 q3 hmax h0
        go_wp2_with fail
        refine (Ho.out _).mono ?_
        rintro e w5 ⟨sa5, cap5, rfl, hr, hb⟩
        have X5 := hide (below_box hb hz4 X4.out)
        have hz5 := Nat.lt_of_lt_of_le hz4 hb.size
        have B5 := hide (B4.out.trans (hb.mono B4.out.size))
        have L5 := hide (L4.out.keep hb)
        have M5 := hide hr.lst
        clear hr
        clear hb c0 c1 X4 L4
        obtain ⟨c0, c1, _, _⟩ := box2 X5.out
        go_wp2
        go_loopw [8] (fun i wr => ∃ k : Nat, k ≤ l2.length ∧ i = .int .i64 k ∧ Below w.heap.size w wr ∧ Below w5.heap.size w5 wr)
          (fun i _ => l2.length - (intOf i).toNat)
        case atStart => exact ⟨0, Nat.zero_le _, rfl, B5.out, Below.refl _ _⟩
        case round =>
          clear X5 c0 c1 B5 hz5
          obtain ⟨k, hk, rfl, hB, hD⟩ := hrel
          have HB := hide hB
          have HD := hide hD
          clear hB hD
          by_cases hlt : k < l2.length
          · have hlt2 : k < l.length := by omega
            obtain ⟨g, off, rfl, hg, hc⟩ := (M5.out.keep HD.out).at hlt
            obtain ⟨g', off', rfl, hg', hc'⟩ := (L5.out.keep HD.out).at hlt2
            have hle := Q2.out k hlt
            obtain ⟨x, hx⟩ : ∃ y, y = l2.getD k 0 := ⟨_, rfl⟩
            obtain ⟨y, hy⟩ : ∃ y, y = l.getD k 0 := ⟨_, rfl⟩
            rw [← hx] at hc hle
            rw [← hy] at hc' hle
            clear hx hy
            have hd5 : decide (y < x) = false := decide_eq_false (by omega)
            go_wp2
            go_quiet (fail)
            go_wp2
            go_roundw
            case rel => exact ⟨k + 1, hlt, by go_num, below_draw HB.out, below_draw HD.out⟩
            case measure => simp [intOf]; omega
          · go_wp2
            go_ret
            exact ⟨rfl, HB.out⟩
end Go.Proofs.Ytmoefeifaiimaab
