/- Chapter 1: equal parts: contracts, and the walk of the exact law. -/
import Derived.Test.YtmoefeifaiimaacLists
import Derived.Test.YtmoefeifaiimaacAmounts
namespace Go.Proofs.Ytmoefeifaiimaac
open Go.ChangeShapes Go.WideShapes Go.ChangeAt Go.RowKit Go.Joins
set_option linter.unusedVariables false

/-- an amount in equal parts -/
def splitL (n d : Int) (k : Nat) : List Int := (List.range k).map fun (i : Nat) => if (i : Int) < n % d then n / d + 1 else n / d
theorem splitL_len (n d : Int) (k : Nat) : (splitL n d k).length = k := by simp [splitL]
theorem splitL_succ (n d : Int) (k : Nat) : splitL n d (k + 1) = splitL n d k ++ [if (k : Int) < n % d then n / d + 1 else n / d] := by
  simp [splitL, List.range_succ]

set_option maxHeartbeats 1000000 in
theorem specSplitLoop (n d : Int) (w : World) (hn : VA n) (h1 : 1 ≤ d) (h2 : d ≤ 12) : Calls Try.prog 49 #[.int .i64 n, .int .i64 d] w (RetList (splitL n d d.toNat) w) := by
  obtain ⟨n1, n2⟩ := id hn
  have q1 : 0 ≤ n / d := Int.ediv_nonneg n1 (by omega)
  have q2 : n / d ≤ n := Int.ediv_le_self _ n1
  have q3 : 0 ≤ n % d := Int.emod_nonneg _ (by omega)
  have q4 : n % d < d := Int.emod_lt_of_pos _ (by omega)
  go_enter Try.func49, Try.ntmps49
  go_wp2
  go_loopw [5, 6] (fun v i wr => ∃ (k : Nat) (sa : Option Addr) (cap : Nat), (k : Int) ≤ d ∧ i = .int .i64 k ∧ v = .slice sa k cap ∧ Row w.heap.size wr sa cap (splitL n d k) ∧ Below w.heap.size w wr)
    (fun _ i _ => (d - intOf i).toNat)
  case atStart => exact ⟨0, _, _, by omega, rfl, rfl, Row.made _ _ (Nat.le_refl _), (Below.refl _ _).alloc (Nat.le_refl _) _⟩
  case round =>
    obtain ⟨k, sa, cap, hk, rfl, rfl, hr, hB⟩ := hrel
    have HR := hide hr
    have HB := hide hB
    clear hr hB
    by_cases hlt : (k : Int) < d
    · have hlen := hide (splitL_len n d k)
      have HS := hide (splitL_succ n d k)
      by_cases hc : (k : Int) < n % d
      · rw [if_pos hc] at HS
        go_wp2_with (first | (at_builtin; refine append_int rfl _ _ rfl w.heap.size wr _ _ (splitL n d k) _ _ (by rw [hlen.out]; rfl) rfl HR.out (by rw [hlen.out]; omega) HB.out.size ?_; intro g cap' w2 R2 hb2))
        rw [← HS.out] at R2
        rw [hlen.out]
        have HR2 := hide R2
        have B2 := hide (HB.out.trans hb2)
        clear R2 hb2 HR HB HS
        go_wp2
        go_roundw
        case rel => exact ⟨k + 1, _, _, by omega, by go_num, rfl, HR2.out, B2.out⟩
        case measure => simp [intOf]; omega
      · rw [if_neg hc] at HS
        go_wp2_with (first | (at_builtin; refine append_int rfl _ _ rfl w.heap.size wr _ _ (splitL n d k) _ _ (by rw [hlen.out]; rfl) rfl HR.out (by rw [hlen.out]; omega) HB.out.size ?_; intro g cap' w2 R2 hb2))
        rw [← HS.out] at R2
        rw [hlen.out]
        have HR2 := hide R2
        have B2 := hide (HB.out.trans hb2)
        clear R2 hb2 HR HB HS
        go_wp2
        go_roundw
        case rel => exact ⟨k + 1, _, _, by omega, by go_num, rfl, HR2.out, B2.out⟩
        case measure => simp [intOf]; omega
    · have hkd := hide (show d.toNat = k by omega)
      go_wp2
      go_ret
      refine ⟨sa, cap, ?_, ?_, HB.out⟩
      · rw [splitL_len, hkd.out]; rfl
      · rw [hkd.out]; exact HR.out

set_option maxHeartbeats 1000000 in
theorem implSplitLoop (n d : Int) (w : World) (hn : VA n) (h1 : 1 ≤ d) (h2 : d ≤ 12) : Calls Try.prog 28 #[.int .i64 n, .int .i64 d] w (RetList (splitL n d d.toNat) w) := by
  obtain ⟨n1, n2⟩ := id hn
  have q1 : 0 ≤ n / d := Int.ediv_nonneg n1 (by omega)
  have q2 : n / d ≤ n := Int.ediv_le_self _ n1
  have q3 : 0 ≤ n % d := Int.emod_nonneg _ (by omega)
  have q4 : n % d < d := Int.emod_lt_of_pos _ (by omega)
  go_enter Try.func28, Try.ntmps28
  go_wp2_with fail
  refine (implAmt_yes _ _ hn).mono ?_
  rintro e w' ⟨rfl, rfl⟩
  go_wp2_with fail
  refine (implInRange_yes _ _ _ _ h1 h2).mono ?_
  rintro e w' ⟨rfl, rfl⟩
  go_wp2
  go_loopw [5, 6] (fun v i wr => ∃ (k : Nat) (sa : Option Addr) (cap : Nat), (k : Int) ≤ d ∧ i = .int .i64 k ∧ v = .slice sa k cap ∧ Row w.heap.size wr sa cap (splitL n d k) ∧ Below w.heap.size w wr)
    (fun _ i _ => (d - intOf i).toNat)
  case atStart => exact ⟨0, _, _, by omega, rfl, rfl, Row.nil _ _, Below.refl _ _⟩
  case round =>
    obtain ⟨k, sa, cap, hk, rfl, rfl, hr, hB⟩ := hrel
    have HR := hide hr
    have HB := hide hB
    clear hr hB
    by_cases hlt : (k : Int) < d
    · have hlen := hide (splitL_len n d k)
      have HS := hide (splitL_succ n d k)
      by_cases hc : (k : Int) < n % d
      · rw [if_pos hc] at HS
        go_wp2_with (first | (at_builtin; refine append_int rfl _ _ rfl w.heap.size wr _ _ (splitL n d k) _ _ (by rw [hlen.out]; rfl) rfl HR.out (by rw [hlen.out]; omega) HB.out.size ?_; intro g cap' w2 R2 hb2))
        rw [← HS.out] at R2
        rw [hlen.out]
        have HR2 := hide R2
        have B2 := hide (HB.out.trans hb2)
        clear R2 hb2 HR HB HS
        go_wp2
        go_roundw
        case rel => exact ⟨k + 1, _, _, by omega, by go_num, rfl, HR2.out, B2.out⟩
        case measure => simp [intOf]; omega
      · rw [if_neg hc] at HS
        go_wp2_with (first | (at_builtin; refine append_int rfl _ _ rfl w.heap.size wr _ _ (splitL n d k) _ _ (by rw [hlen.out]; rfl) rfl HR.out (by rw [hlen.out]; omega) HB.out.size ?_; intro g cap' w2 R2 hb2))
        rw [← HS.out] at R2
        rw [hlen.out]
        have HR2 := hide R2
        have B2 := hide (HB.out.trans hb2)
        clear R2 hb2 HR HB HS
        go_wp2
        go_roundw
        case rel => exact ⟨k + 1, _, _, by omega, by go_num, rfl, HR2.out, B2.out⟩
        case measure => simp [intOf]; omega
    · have hkd := hide (show d.toNat = k by omega)
      go_wp2
      go_ret
      refine ⟨sa, cap, ?_, ?_, HB.out⟩
      · rw [splitL_len, hkd.out]; rfl
      · rw [hkd.out]; exact HR.out
theorem implSplitEven_no (n d : Int) (w : World) (h : ¬ (VA n ∧ 1 ≤ d ∧ d ≤ 12)) : Calls Try.prog 28 #[.int .i64 n, .int .i64 d] w (RetList [] w) := by
  by_cases hn : VA n
  · have hd : ¬ (1 ≤ d ∧ d ≤ 12) := fun x => h ⟨hn, x⟩
    clear h
    go_enter Try.func28, Try.ntmps28
    go_wp2_with fail
    refine (implAmt_yes _ _ hn).mono ?_
    rintro e w' ⟨rfl, rfl⟩
    go_wp2_with fail
    refine (implInRange_no _ _ _ _ hd).mono ?_
    rintro e w' ⟨rfl, rfl⟩
    clear hd
    go_wp2
    go_ret
    exact RetList.of (base := 0) rfl (Row.nil _ _) (Below.refl _ _)
  · clear h
    go_enter Try.func28, Try.ntmps28
    go_wp2_with fail
    refine (implAmt_no _ _ hn).mono ?_
    rintro e w' ⟨rfl, rfl⟩
    clear hn
    go_wp2
    go_ret
    exact RetList.of (base := 0) rfl (Row.nil _ _) (Below.refl _ _)
theorem specSplitEven_no (n d : Int) (w : World) (h : ¬ (VA n ∧ 1 ≤ d ∧ d ≤ 12)) : Calls Try.prog 29 #[.int .i64 n, .int .i64 d] w (RetList [] w) := by
  by_cases hn : VA n
  · have hd : ¬ (1 ≤ d ∧ d ≤ 12) := fun x => h ⟨hn, x⟩
    clear h
    go_enter Try.func29, Try.ntmps29
    go_wp2_with fail
    refine (specAmt_yes _ _ hn).mono ?_
    rintro e w' ⟨rfl, rfl⟩
    go_wp2_with fail
    refine (specInRange_no _ _ _ _ hd).mono ?_
    rintro e w' ⟨rfl, rfl⟩
    clear hd
    go_wp2
    go_ret
    exact RetList.of (base := 0) rfl (Row.nil _ _) (Below.refl _ _)
  · clear h
    go_enter Try.func29, Try.ntmps29
    go_wp2_with fail
    refine (specAmt_no _ _ hn).mono ?_
    rintro e w' ⟨rfl, rfl⟩
    clear hn
    go_wp2
    go_ret
    exact RetList.of (base := 0) rfl (Row.nil _ _) (Below.refl _ _)
theorem specSplitEven_yes (n d : Int) (w : World) (hn : VA n) (h1 : 1 ≤ d) (h2 : d ≤ 12) : Calls Try.prog 29 #[.int .i64 n, .int .i64 d] w (RetList (splitL n d d.toNat) w) := by
  go_enter Try.func29, Try.ntmps29
  go_wp2_with fail
  refine (specAmt_yes _ _ hn).mono ?_
  rintro e w' ⟨rfl, rfl⟩
  go_wp2_with fail
  refine (specInRange_yes _ _ _ _ h1 h2).mono ?_
  rintro e w' ⟨rfl, rfl⟩
  go_wp2_with fail
  refine (specSplitLoop n d _ hn h1 h2).mono ?_
  rintro e w1 ⟨sa, cap, rfl, hr, hb⟩
  have HR := hide hr
  have HB := hide hb
  clear hr hb
  go_wp2
  go_ret
  exact ⟨sa, cap, rfl, HR.out, HB.out⟩

set_option maxHeartbeats 1000000 in
theorem walkFnExactSplitEven (w : World) (n : Int) (w0 : (Lit.int .i64 n).wf = true) (d : Int) (w1 : (Lit.int .i64 d).wf = true) :
    Calls Try.prog 9 #[.int .i64 n, .int .i64 d] w fun e w' => e = .returned (.bool true) ∧ Below w.heap.size w w' := by
  obtain ⟨l, hlen, Hi, Hs⟩ : ∃ l : List Int, l.length ≤ 1000 ∧ Hid (∀ w, Calls Try.prog 28 #[.int .i64 n, .int .i64 d] w (RetList l w)) ∧ Hid (∀ w, Calls Try.prog 29 #[.int .i64 n, .int .i64 d] w (RetList l w)) := by
    by_cases h : VA n ∧ 1 ≤ d ∧ d ≤ 12
    · exact ⟨_, by rw [splitL_len]; omega, fun w => implSplitLoop n d w h.1 h.2.1 h.2.2, fun w => specSplitEven_yes n d w h.1 h.2.1 h.2.2⟩
    · exact ⟨[], by simp, fun w => implSplitEven_no n d w h, fun w => specSplitEven_no n d w h⟩
  go_enter Try.func9, Try.ntmps9
  go_wp2_with fail
  refine (Hs.out _).mono ?_
  rintro e w1 ⟨sa0, cap0, rfl, hr0, hb⟩
  have B1 := hide hb
  have L1 := hide hr0.lst
  clear hb hr0
  go_wp2_with fail
  refine (Hi.out _).mono ?_
  rintro e w2 ⟨sa1, cap1, rfl, hr1, hb⟩
  have B2 := hide (B1.out.trans (hb.mono B1.out.size))
  have D2 := hide hb
  have R2 := hide hr1
  clear hb hr1
  go_wp2_with fail
  refine (eqIntS_same sa1 sa0 l cap1 cap0 _ R2.out.lst (L1.out.keep D2.out) (by omega)).mono ?_
  rintro e w3 ⟨rfl, hb⟩
  have B3 := hide (B2.out.trans (hb.mono B2.out.size))
  have R3 := hide (R2.out.keep hb)
  have D3 := hide (D2.out.trans (hb.mono D2.out.size))
  clear hb R2 D2
  go_wp2_with fail
  refine (markIntS_any w1.heap.size sa1 cap1 l 1 _ R3.out (by omega) (by omega) (by omega)).mono ?_
  rintro e w4 ⟨rfl, hm, hb⟩
  have B4 := hide (B3.out.trans (hb.mono B1.out.size))
  have D4 := hide (D3.out.trans hb)
  have M4 := hide hm
  clear hb hm R3 D3
  go_wp2_with fail
  refine (heldIntS_any sa1 cap1 l.length 1 _ M4.out (by omega) (by omega) (by omega)).mono ?_
  rintro e w' ⟨rfl, rfl⟩
  go_wp2_with fail
  refine (Hi.out _).mono ?_
  rintro e w5 ⟨sa2, cap2, rfl, hr2, hb⟩
  have B5 := hide (B4.out.trans (hb.mono B4.out.size))
  have D5 := hide (D4.out.trans (hb.mono D4.out.size))
  have M5 := hide (M4.out.keep hb)
  have R5 := hide hr2
  clear hb hr2 D4 M4
  go_wp2_with fail
  refine (eqIntS_same sa2 sa0 l cap2 cap0 _ R5.out.lst (L1.out.keep D5.out) (by omega)).mono ?_
  rintro e w6 ⟨rfl, hb⟩
  have B6 := hide (B5.out.trans (hb.mono B5.out.size))
  have M6 := hide (M5.out.keep hb)
  clear hb
  go_wp2_with fail
  refine (heldIntS_any sa1 cap1 l.length 1 _ M6.out (by omega) (by omega) (by omega)).mono ?_
  rintro e w' ⟨rfl, rfl⟩
  go_wp2
  go_ret
  exact ⟨rfl, B6.out⟩
end Go.Proofs.Ytmoefeifaiimaac
