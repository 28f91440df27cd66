/- Chapter 1: equal parts: contracts, and the walk of the exact law. -/
import Derived.Test.YthbkkbcbhhmhoabLists
import Derived.Test.YthbkkbcbhhmhoabAmounts
namespace Go.Proofs.Ythbkkbcbhhmhoab
open Go.ChangeShapes Go.WideShapes Go.ChangeAt Go.RowKit Go.Joins
set_option linter.unusedVariables false

/-- an amount in equal parts -/
def splitL (n d : Int) (k : Nat) : List Int := (List.range k).map fun (i : Nat) => if (i : Int) < n % d then n / d + 1 else n / d
theorem splitL_len (n d : Int) (k : Nat) : (splitL n d k).length = k := by simp [splitL]
theorem splitL_succ (n d : Int) (k : Nat) : splitL n d (k + 1) = splitL n d k ++ [if (k : Int) < n % d then n / d + 1 else n / d] := by
  simp [splitL, List.range_succ]

set_option maxHeartbeats 1000000 in
theorem specSplitLoop (n d : Int) (w : World) (hn : VA n) (h1 : 1 ≤ d) (h2 : d ≤ 12) : Calls Try.prog 88 #[.int .i64 n, .int .i64 d] w (RetList (splitL n d d.toNat) w) := by
  obtain ⟨n1, n2⟩ := id hn
  have q1 : 0 ≤ n / d := Int.ediv_nonneg n1 (by omega)
  have q2 : n / d ≤ n := Int.ediv_le_self _ n1
  have q3 : 0 ≤ n % d := Int.emod_nonneg _ (by omega)
  have q4 : n % d < d := Int.emod_lt_of_pos _ (by omega)
  go_enter Try.func88, Try.ntmps88
  go_wp2
  go_loopw [5, 6] (fun v i wr => ∃ (k : Nat) (sa : Option Addr) (cap : Nat), (k : Int) ≤ d ∧ i = .int .i64 k ∧ v = .slice sa k cap ∧ Row w.heap.size wr sa cap (splitL n d k) ∧ Below w.heap.size w wr)
    (fun _ i _ => (d - intOf i).toNat)
  case atStart => exact ⟨0, _, _, by omega, rfl, rfl, Row.made _ _ (Nat.le_refl _), (Below.refl _ _).alloc (Nat.le_refl _) _⟩
  case round =>
    obtain ⟨k, sa, cap, hk, rfl, rfl, hr, hB⟩ := hrel
    have HR := hide hr
    have HB := hide hB
    clear hr hB
    by_cases hlt : (k : Int) < d
    · have hlen := hide (splitL_len n d k)
      have HS := hide (splitL_succ n d k)
      by_cases hc : (k : Int) < n % d
      · rw [if_pos hc] at HS
        go_wp2_with (first | (at_builtin; refine append_int rfl _ _ rfl w.heap.size wr _ _ (splitL n d k) _ _ (by rw [hlen.out]; rfl) rfl HR.out (by rw [hlen.out]; omega) HB.out.size ?_; intro g cap' w2 R2 hb2))
        rw [← HS.out] at R2
        rw [hlen.out]
        have HR2 := hide R2
        have B2 := hide (HB.out.trans hb2)
        clear R2 hb2 HR HB HS
        go_wp2
        go_roundw
        case rel => exact ⟨k + 1, _, _, by omega, by go_num, rfl, HR2.out, B2.out⟩
        case measure => simp [intOf]; omega
      · rw [if_neg hc] at HS
        go_wp2_with (first | (at_builtin; refine append_int rfl _ _ rfl w.heap.size wr _ _ (splitL n d k) _ _ (by rw [hlen.out]; rfl) rfl HR.out (by rw [hlen.out]; omega) HB.out.size ?_; intro g cap' w2 R2 hb2))
        rw [← HS.out] at R2
        rw [hlen.out]
        have HR2 := hide R2
        have B2 := hide (HB.out.trans hb2)
        clear R2 hb2 HR HB HS
        go_wp2
        go_roundw
        case rel => exact ⟨k + 1, _, _, by omega, by go_num, rfl, HR2.out, B2.out⟩
        case measure => simp [intOf]; omega
    · have hkd := hide (show d.toNat = k by omega)
      go_wp2
      go_ret
      refine ⟨sa, cap, ?_, ?_, HB.out⟩
      · rw [splitL_len, hkd.out]; rfl
      · rw [hkd.out]; exact HR.out

set_option maxHeartbeats 1000000 in
theorem implSplitLoop (n d : Int) (w : World) (hn : VA n) (h1 : 1 ≤ d) (h2 : d ≤ 12) : Calls Try.prog 84 #[.int .i64 n, .int .i64 d] w (RetList (splitL n d d.toNat) w) := by
  obtain ⟨n1, n2⟩ := id hn
  have q1 : 0 ≤ n / d := Int.ediv_nonneg n1 (by omega)
  have q2 : n / d ≤ n := Int.ediv_le_self _ n1
  have q3 : 0 ≤ n % d := Int.emod_nonneg _ (by omega)
  have q4 : n % d < d := Int.emod_lt_of_pos _ (by omega)
  go_enter Try.func84, Try.ntmps84
  go_wp2_with fail
  refine (implAmt_yes _ _ hn).mono ?_
  rintro e w' ⟨rfl, rfl⟩
  go_wp2_with fail
  refine (implInRange_yes _ _ _ _ h1 h2).mono ?_
  rintro e w' ⟨rfl, rfl⟩
  go_wp2
  go_loopw [5, 6] (fun v i wr => ∃ (k : Nat) (sa : Option Addr) (cap : Nat), (k : Int) ≤ d ∧ i = .int .i64 k ∧ v = .slice sa k cap ∧ Row w.heap.size wr sa cap (splitL n d k) ∧ Below w.heap.size w wr)
    (fun _ i _ => (d - intOf i).toNat)
  case atStart => exact ⟨0, _, _, by omega, rfl, rfl, Row.nil _ _, Below.refl _ _⟩
  case round =>
    obtain ⟨k, sa, cap, hk, rfl, rfl, hr, hB⟩ := hrel
    have HR := hide hr
    have HB := hide hB
    clear hr hB
    by_cases hlt : (k : Int) < d
    · have hlen := hide (splitL_len n d k)
      have HS := hide (splitL_succ n d k)
      by_cases hc : (k : Int) < n % d
      · rw [if_pos hc] at HS
        go_wp2_with (first | (at_builtin; refine append_int rfl _ _ rfl w.heap.size wr _ _ (splitL n d k) _ _ (by rw [hlen.out]; rfl) rfl HR.out (by rw [hlen.out]; omega) HB.out.size ?_; intro g cap' w2 R2 hb2))
        rw [← HS.out] at R2
        rw [hlen.out]
        have HR2 := hide R2
        have B2 := hide (HB.out.trans hb2)
        clear R2 hb2 HR HB HS
        go_wp2
        go_roundw
        case rel => exact ⟨k + 1, _, _, by omega, by go_num, rfl, HR2.out, B2.out⟩
        case measure => simp [intOf]; omega
      · rw [if_neg hc] at HS
        go_wp2_with (first | (at_builtin; refine append_int rfl _ _ rfl w.heap.size wr _ _ (splitL n d k) _ _ (by rw [hlen.out]; rfl) rfl HR.out (by rw [hlen.out]; omega) HB.out.size ?_; intro g cap' w2 R2 hb2))
        rw [← HS.out] at R2
        rw [hlen.out]
        have HR2 := hide R2
        have B2 := hide (HB.out.trans hb2)
        clear R2 hb2 HR HB HS
        go_wp2
        go_roundw
        case rel => exact ⟨k + 1, _, _, by omega, by go_num, rfl, HR2.out, B2.out⟩
        case measure => simp [intOf]; omega
    · have hkd := hide (show d.toNat = k by omega)
      go_wp2
      go_ret
      refine ⟨sa, cap, ?_, ?_, HB.out⟩
      · rw [splitL_len, hkd.out]; rfl
      · rw [hkd.out]; exact HR.out
theorem implSplitEven_no (n d : Int) (w : World) (h : ¬ (VA n ∧ 1 ≤ d ∧ d ≤ 12)) : Calls Try.prog 84 #[.int .i64 n, .int .i64 d] w (RetList [] w) := by
  by_cases hn : VA n
  · have hd : ¬ (1 ≤ d ∧ d ≤ 12) := fun x => h ⟨hn, x⟩
    clear h
    go_enter Try.func84, Try.ntmps84
    go_wp2_with fail
    refine (implAmt_yes _ _ hn).mono ?_
    rintro e w' ⟨rfl, rfl⟩
    go_wp2_with fail
    refine (implInRange_no _ _ _ _ hd).mono ?_
    rintro e w' ⟨rfl, rfl⟩
    clear hd
    go_wp2
    go_ret
    exact RetList.of (base := 0) rfl (Row.nil _ _) (Below.refl _ _)
  · clear h
    go_enter Try.func84, Try.ntmps84
    go_wp2_with fail
    refine (implAmt_no _ _ hn).mono ?_
    rintro e w' ⟨rfl, rfl⟩
    clear hn
    go_wp2
    go_ret
    exact RetList.of (base := 0) rfl (Row.nil _ _) (Below.refl _ _)
end Go.Proofs.Ythbkkbcbhhmhoab
