/- Exchanged digits: the walk of the exact law. -/
import Derived.Test.YtmoefeifaiimaacSwap2
namespace Go.Proofs.Ytmoefeifaiimaac
open Go.ChangeShapes Go.WideShapes Go.ChangeAt Go.RowKit Go.Joins
set_option linter.unusedVariables false

theorem specSwapped_no (n : Int) (w : World) (h : ¬ VA n) : Calls Try.prog 22 #[.int .i64 n] w (RetList [] w) := by
  go_enter Try.func22, Try.ntmps22
  go_wp2_with fail
  refine (specAmt_no _ _ h).mono ?_
  rintro e w' ⟨rfl, rfl⟩
  clear h
  go_wp2
  go_ret
  exact ⟨none, 0, rfl, Row.nil _ _, Below.refl _ _⟩
theorem specSwapped_yes (n : Int) (w : World) (h : VA n) : Calls Try.prog 22 #[.int .i64 n] w (RetList (swapL n (rdig n.toNat) ((rdig n.toNat).length - 1)) w) := by
  have HC := hide (fun w => swaps_any n w h)
  obtain ⟨l, hl⟩ : ∃ l, l = swapL n (rdig n.toNat) ((rdig n.toNat).length - 1) := ⟨_, rfl⟩
  rw [← hl] at HC ⊢
  clear hl
  go_enter Try.func22, Try.ntmps22
  go_wp2_with fail
  refine (specAmt_yes _ _ h).mono ?_
  rintro e w' ⟨rfl, rfl⟩
  clear h
  go_wp2_with fail
  refine (HC.out _).mono ?_
  rintro e w1 ⟨sa, cap, rfl, hr, hb⟩
  have HR := hide hr
  have HB := hide hb
  clear hr hb
  go_wp2
  go_ret
  exact ⟨sa, cap, rfl, HR.out, HB.out⟩

set_option maxHeartbeats 1000000 in
theorem walkFnExactSwappedOf (w : World) (n : Int) (w0 : (Lit.int .i64 n).wf = true) :
    Calls Try.prog 7 #[.int .i64 n] w fun e w' => e = .returned (.bool true) ∧ Below w.heap.size w w' := by
  obtain ⟨l, hlen, Hi, Hs⟩ : ∃ l : List Int, l.length ≤ 1000 ∧ Hid (∀ w, Calls Try.prog 20 #[.int .i64 n] w (RetList l w)) ∧ Hid (∀ w, Calls Try.prog 22 #[.int .i64 n] w (RetList l w)) := by
    by_cases h : VA n
    · exact ⟨_, by have := swapL_len n (rdig n.toNat) ((rdig n.toNat).length - 1); have := rdig_amt n h; omega, fun w => implSwapped_yes n w h, fun w => specSwapped_yes n w h⟩
    · exact ⟨[], by simp, fun w => implSwapped_no n w h, fun w => specSwapped_no n w h⟩
  go_enter Try.func7, Try.ntmps7
  go_wp2_with fail
  refine (Hs.out _).mono ?_
  rintro e w1 ⟨sa0, cap0, rfl, hr0, hb⟩
  have B1 := hide hb
  have L1 := hide hr0.lst
  clear hb hr0
  go_wp2_with fail
  refine (Hi.out _).mono ?_
  rintro e w2 ⟨sa1, cap1, rfl, hr1, hb⟩
  have B2 := hide (B1.out.trans (hb.mono B1.out.size))
  have D2 := hide hb
  have R2 := hide hr1
  clear hb hr1
  go_wp2_with fail
  refine (eqIntS_same sa1 sa0 l cap1 cap0 _ R2.out.lst (L1.out.keep D2.out) (by omega)).mono ?_
  rintro e w3 ⟨rfl, hb⟩
  have B3 := hide (B2.out.trans (hb.mono B2.out.size))
  have R3 := hide (R2.out.keep hb)
  have D3 := hide (D2.out.trans (hb.mono D2.out.size))
  clear hb R2 D2
  go_wp2_with fail
  refine (markIntS_any w1.heap.size sa1 cap1 l 1 _ R3.out (by omega) (by omega) (by omega)).mono ?_
  rintro e w4 ⟨rfl, hm, hb⟩
  have B4 := hide (B3.out.trans (hb.mono B1.out.size))
  have D4 := hide (D3.out.trans hb)
  have M4 := hide hm
  clear hb hm R3 D3
  go_wp2_with fail
  refine (heldIntS_any sa1 cap1 l.length 1 _ M4.out (by omega) (by omega) (by omega)).mono ?_
  rintro e w' ⟨rfl, rfl⟩
  go_wp2_with fail
  refine (Hi.out _).mono ?_
  rintro e w5 ⟨sa2, cap2, rfl, hr2, hb⟩
  have B5 := hide (B4.out.trans (hb.mono B4.out.size))
  have D5 := hide (D4.out.trans (hb.mono D4.out.size))
  have M5 := hide (M4.out.keep hb)
  have R5 := hide hr2
  clear hb hr2 D4 M4
  go_wp2_with fail
  refine (eqIntS_same sa2 sa0 l cap2 cap0 _ R5.out.lst (L1.out.keep D5.out) (by omega)).mono ?_
  rintro e w6 ⟨rfl, hb⟩
  have B6 := hide (B5.out.trans (hb.mono B5.out.size))
  have M6 := hide (M5.out.keep hb)
  clear hb
  go_wp2_with fail
  refine (heldIntS_any sa1 cap1 l.length 1 _ M6.out (by omega) (by omega) (by omega)).mono ?_
  rintro e w' ⟨rfl, rfl⟩
  go_wp2
  go_ret
  exact ⟨rfl, B6.out⟩
end Go.Proofs.Ytmoefeifaiimaac
