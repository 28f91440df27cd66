/- Chapter 1: the walk of the exact law of OwedAfter. -/
import Derived.Test.YtmoefeifaiimaabMoney4
namespace Go.Proofs.Ytmoefeifaiimaab
open Go.ChangeShapes Go.WideShapes Go.ChangeAt Go.RowKit Go.Joins
set_option linter.unusedVariables false

set_option maxHeartbeats 1000000 in
theorem walkFnExactOwedAfter (w : World) (n : Int) (w0 : (Lit.int .i64 n).wf = true) (p q : Int) (w1 : (Lit.int .i64 p).wf = true) (w2 : (Lit.int .i64 q).wf = true) (pay : Int) (w3 : (Lit.int .i64 pay).wf = true) :
    Calls Try.prog 7 #[.int .i64 n, .agg #[.int .i64 p, .int .i64 q], .int .i64 pay] w fun e w' => e = .returned (.bool true) ∧ Below w.heap.size w w' := by
  obtain ⟨l, hlen, Hi, Hs⟩ : ∃ l : List Int, l.length ≤ 1000 ∧ Hid (∀ w, Calls Try.prog 19 #[.int .i64 n, .agg #[.int .i64 p, .int .i64 q], .int .i64 pay] w (RetList l w)) ∧ Hid (∀ w, Calls Try.prog 21 #[.int .i64 n, .agg #[.int .i64 p, .int .i64 q], .int .i64 pay] w (RetList l w)) := by
    by_cases h : VA n ∧ VR p q ∧ VA pay
    · exact ⟨_, Nat.le_trans (owedL_len p q pay n) (by omega), fun w => implOwedAfter_yes n p q pay w h.1 h.2.1 h.2.2, fun w => specOwedAfter_yes n p q pay w h.1 h.2.1 h.2.2⟩
    · exact ⟨[], by simp, fun w => implOwedAfter_no n p q pay w h, fun w => specOwedAfter_no n p q pay w h⟩
  go_enter Try.func7, Try.ntmps7
  go_wp2_with fail
  refine (toRate_any _ _ _).mono ?_
  rintro e w1 ⟨rfl, hb⟩
  have X1 := hide (below_box hb (by simp) (box_new w _ _))
  have B1 := hide (((Below.refl _ _).alloc (Nat.le_refl _) _).trans (hb.mono (by simp)))
  have hz1 : w.heap.size < w1.heap.size := by have := hb.size; simp at this; omega
  clear hb
  go_wp2_with fail
  refine (Hs.out _).mono ?_
  rintro e w2 ⟨sa0, cap0, rfl, hr0, hb⟩
  have X2 := hide (below_box hb hz1 X1.out)
  have hz2 := Nat.lt_of_lt_of_le hz1 hb.size
  have B2 := hide (B1.out.trans (hb.mono B1.out.size))
  have L2 := hide hr0.lst
  clear hb hr0 X1 hz1
  obtain ⟨c0, c1, _, _⟩ := box2 X2.out
  go_wp2_with fail
  refine (toRate_any _ _ _).mono ?_
  rintro e w3 ⟨rfl, hb⟩
  have B3 := hide (B2.out.trans (hb.mono B2.out.size))
  have L3 := hide (L2.out.keep hb)
  have X3 := hide (below_box hb hz2 X2.out)
  have hz3 := Nat.lt_of_lt_of_le hz2 hb.size
  clear hb c0 c1 X2 L2 hz2
  go_wp2_with fail
  refine (Hi.out _).mono ?_
  rintro e w4 ⟨sa1, cap1, rfl, hr1, hb⟩
  have B4 := hide (B3.out.trans (hb.mono B3.out.size))
  have D4 := hide hb
  have R4 := hide hr1
  clear hb hr1
  go_wp2_with fail
  refine (eqIntS_same sa1 sa0 l cap1 cap0 _ R4.out.lst (L3.out.keep D4.out) (by omega)).mono ?_
  rintro e w5 ⟨rfl, hb⟩
  have B5 := hide (B4.out.trans (hb.mono B4.out.size))
  have R5 := hide (R4.out.keep hb)
  have D5 := hide (D4.out.trans (hb.mono D4.out.size))
  clear hb R4 D4
  go_wp2_with fail
  refine (markIntS_any w3.heap.size sa1 cap1 l 1 _ R5.out (by omega) (by omega) (by omega)).mono ?_
  rintro e w6 ⟨rfl, hm, hb⟩
  have B6 := hide (B5.out.trans (hb.mono B3.out.size))
  have D6 := hide (D5.out.trans hb)
  have M6 := hide hm
  clear hb hm R5 D5
  go_wp2_with fail
  refine (heldIntS_any sa1 cap1 l.length 1 _ M6.out (by omega) (by omega) (by omega)).mono ?_
  rintro e w' ⟨rfl, rfl⟩
  obtain ⟨c0, c1, _, _⟩ := box2 (below_box D6.out hz3 X3.out)
  go_wp2_with fail
  refine (toRate_any _ _ _).mono ?_
  rintro e w7 ⟨rfl, hb⟩
  have B7 := hide (B6.out.trans (hb.mono B6.out.size))
  have M7 := hide (M6.out.keep hb)
  have D7 := hide (D6.out.trans (hb.mono D6.out.size))
  clear hb c0 c1 M6 D6
  go_wp2_with fail
  refine (Hi.out _).mono ?_
  rintro e w8 ⟨sa2, cap2, rfl, hr2, hb⟩
  have B8 := hide (B7.out.trans (hb.mono B7.out.size))
  have D8 := hide (D7.out.trans (hb.mono D7.out.size))
  have M8 := hide (M7.out.keep hb)
  have R8 := hide hr2
  clear hb hr2 D7 M7
  go_wp2_with fail
  refine (eqIntS_same sa2 sa0 l cap2 cap0 _ R8.out.lst (L3.out.keep D8.out) (by omega)).mono ?_
  rintro e w9 ⟨rfl, hb⟩
  have B9 := hide (B8.out.trans (hb.mono B8.out.size))
  have M9 := hide (M8.out.keep hb)
  clear hb
  go_wp2_with fail
  refine (heldIntS_any sa1 cap1 l.length 1 _ M9.out (by omega) (by omega) (by omega)).mono ?_
  rintro e w' ⟨rfl, rfl⟩
  go_wp2
  go_ret
  exact ⟨rfl, B9.out⟩
end Go.Proofs.Ytmoefeifaiimaab
