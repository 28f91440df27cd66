/- Chapter 1: the walk of the law of equal parts, at drawn arguments. -/
import Derived.Test.YtmoefeifaiimaacSplit
import Derived.Test.YtmoefeifaiimaacPure2
import Derived.Test.YtmoefeifaiimaacDraw6
namespace Go.Proofs.Ytmoefeifaiimaac
open Go.ChangeShapes Go.WideShapes Go.ChangeAt Go.RowKit Go.Joins
set_option linter.unusedVariables false

theorem splitL_at (n d : Int) (k i : Nat) (h : i < k) : (splitL n d k).getD i 0 = if (i : Int) < n % d then n / d + 1 else n / d := by
  simp [splitL, List.getD_eq_getElem?_getD, h]
theorem splitL_sum (n d : Int) (hd : 0 ≤ n % d) (k : Nat) : ssum (splitL n d k) = (k : Int) * (n / d) + (if (k : Int) ≤ n % d then (k : Int) else n % d) := by
  induction k with
  | zero => simp [splitL, ssum]; omega
  | succ k ih =>
    rw [splitL_succ, ssum_snoc, ih, Int.natCast_add, Int.add_mul]
    split <;> split <;> split <;> simp <;> omega
theorem splitL_in (n d : Int) (k : Nat) (hq : 0 ≤ n / d) : ∀ x ∈ splitL n d k, 0 ≤ x ∧ x ≤ n / d + 1 := by
  intro x hx
  obtain ⟨i, _, rfl⟩ := List.mem_map.1 hx
  split <;> omega

set_option maxHeartbeats 1000000 in
theorem lawTotal_any (sa : Option Addr) (cap : Nat) (l : List Int) (m : Int) (w : World) (h : Lst w sa l) (hl : l.length ≤ 1000) (hm : 0 ≤ m) (hm2 : m ≤ 1000000000) (hin : ∀ x ∈ l, 0 ≤ x ∧ x ≤ m) :
    Calls Try.prog 30 #[.slice sa l.length cap] w fun e w' => e = .returned (.int .i64 (ssum l)) ∧ w = w' := by
  have H := hide h
  have HA := hide hin
  clear h hin
  go_enter Try.func30, Try.ntmps30
  go_wp2
  go_loop [3, 4] (fun a i => ∃ k : Nat, k ≤ l.length ∧ i = .int .i64 k ∧ a = .int .i64 (ssum (l.take k))) (fun _ i => l.length - (intOf i).toNat)
  case atStart => exact ⟨0, Nat.zero_le _, rfl, rfl⟩
  case round =>
    obtain ⟨k, hk, rfl, rfl⟩ := hrel
    have hs := ssum_in (l.take k) m hm (fun x hx => HA.out x (List.mem_of_mem_take hx))
    have htl : (l.take k).length ≤ k := List.length_take_le _ _
    have hmul : m * ((l.take k).length : Int) ≤ 1000000000 * 1000 := Int.mul_le_mul hm2 (by omega) (by omega) (by omega)
    by_cases hlt : k < l.length
    · have hgd : l.getD k 0 ∈ l := by rw [List.getD_eq_getElem?_getD, List.getElem?_eq_getElem hlt]; exact List.getElem_mem _
      have Htk := hide (show ssum (l.take (k + 1)) = ssum (l.take k) + l.getD k 0 by
        rw [List.take_succ_eq_append_getElem hlt, ssum_snoc, List.getD_eq_getElem?_getD, List.getElem?_eq_getElem hlt]; rfl)
      have hx := HA.out _ hgd
      obtain ⟨g, off, rfl, hg, hc⟩ := H.out.at hlt
      obtain ⟨x, hx'⟩ : ∃ x, x = l.getD k 0 := ⟨_, rfl⟩
      obtain ⟨s, hs'⟩ : ∃ s, s = ssum (l.take k) := ⟨_, rfl⟩
      have hs1 : 0 ≤ s := by rw [hs']; exact hs.1
      have hs2 : s ≤ 1000000000000 := by rw [hs']; omega
      rw [← hx'] at hc hx Htk
      rw [← hs'] at Htk ⊢
      clear hx' hs' hs hmul hgd
      go_wp2
      go_round
      case rel => exact ⟨k + 1, hlt, by go_num, by rw [Htk.out]⟩
      case measure => simp [intOf]; omega
    · have HF := hide (show ssum (l.take k) = ssum l by rw [List.take_of_length_le (by omega)])
      go_wp2
      go_ret
      exact ⟨ret_int HF.out, rfl⟩

theorem equalInts_eq (sa sb : Option Addr) (a : List Int) (ca cb : Nat) (w : World) (ha : Lst w sa a) (hb : Lst w sb a) (la : a.length ≤ 1000000) :
    Calls Try.prog 21 #[.slice sa a.length ca, .slice sb a.length cb] w (EqRet true w) :=
  (equalInts_any sa sb a a ca cb w ha hb la la).mono fun e w' ⟨he, hb⟩ => ⟨by rw [he]; simp, hb⟩

def AmtIntOut (w : World) (e : Ending) (w' : World) : Prop := ∃ n k : Int, e = .returned (.tuple #[.int .i64 n, .int .i64 k]) ∧ -1 ≤ n ∧ n ≤ 1000001 ∧ -1 ≤ k ∧ k ≤ 1000001 ∧ Below w.heap.size w w'
theorem drawSplitEven_any (sa : Option Addr) (len cap : Nat) (w : World) (h : Code w sa len cap) (hl : len ≤ maxLen) :
    Calls Try.prog 27 #[.slice sa len cap] w (AmtIntOut w) := by
  go_enter Try.func27, Try.ntmps27
  go_wp2_with fail
  refine (newReader_any _ _ _ _ h hl).mono ?_
  rintro e w1 ⟨rfl, hr1, hb1, hs1⟩
  have B1 := hide hb1
  clear hb1 hs1 h
  go_wp2_with fail
  refine (anAmount_any _ _ _ _ hr1 (by omega)).mono ?_
  rintro e w2 ⟨n, rfl, n1, n2, ⟨p2, hp2, hr2⟩, hb2⟩
  have B2 := hide (B1.out.trans (hb2.to_below (Nat.le_refl _) B1.out.size))
  clear hr1 hb2
  go_wp2_with fail
  refine (one_new _ _ _ [3, 4, 1, 12, 7, 0, 13] 0 13 _ w2 hr2 (by omega) (by simp) (by simp) (by simp)).mono ?_
  rintro e w3 ⟨k, rfl, a3, b3, hr3, hb3, hs3⟩
  have B3 := hide ((B2.out.alloc B2.out.size _).trans (hb3.to_below (Nat.le_refl _) (Nat.le_trans B2.out.size (by simp))))
  clear hr2 hb3 hr3 hs3
  go_wp2
  go_ret2
  exact ⟨n, k, rfl, n1, n2, by omega, by omega, B3.out⟩
set_option maxRecDepth 100000 in
set_option maxHeartbeats 1000000 in
theorem walkFnSplitEven (w : World) (sa : Option Addr) (len cap : Nat) (h : Code w sa len cap) (hl : len ≤ maxLen) :
    Calls Try.prog 8 #[.slice sa len cap] w fun e w' => e = .returned (.bool true) ∧ Below w.heap.size w w' := by
  have hl' := hl
  unfold maxLen at hl'
  by_cases hbig : 1048576 < len
  · clear h hl
    go_enter Try.func8, Try.ntmps8
    go_wp2
    go_ret
    exact ⟨rfl, Below.refl _ _⟩
  · go_enter Try.func8, Try.ntmps8
    go_wp2_with fail
    refine (drawSplitEven_any sa len cap w h hl).mono ?_
    rintro e w1 ⟨n, d, rfl, _, _, _, _, hb⟩
    have B1 := hide hb
    clear hb h hl
    by_cases hv : VA n ∧ 1 ≤ d ∧ d ≤ 12
    · obtain ⟨ha, h1, h2⟩ := hv
      obtain ⟨n1, n2⟩ := id ha
      have q1 : 0 ≤ n / d := Int.ediv_nonneg n1 (by omega)
      have q2 : n / d ≤ n := Int.ediv_le_self _ n1
      have q3 : 0 ≤ n % d := Int.emod_nonneg _ (by omega)
      have q4 : n % d < d := Int.emod_lt_of_pos _ (by omega)
      have hlen := splitL_len n d d.toNat
      have hat := fun i h => splitL_at n d d.toNat i h
      have hin := splitL_in n d d.toNat q1
      have hsum : ssum (splitL n d d.toNat) = n := by
        rw [splitL_sum n d q3, if_neg (by omega), show ((d.toNat : Nat) : Int) = d by omega]
        have := Int.emod_add_mul_ediv n d
        omega
      have Hi := hide (fun w => implSplitLoop n d w ha h1 h2)
      have Hs := hide (fun w => specSplitEven_yes n d w ha h1 h2)
      obtain ⟨l, hl⟩ : ∃ l, l = splitL n d d.toNat := ⟨_, rfl⟩
      rw [← hl] at hlen hin hsum Hi Hs
      have HAT := hide (show ∀ i, i < l.length → l.getD i 0 = if (i : Int) < n % d then n / d + 1 else n / d from fun i hi => by
        rw [hl]; exact hat i (by rw [← hlen]; exact hi))
      have hdl := hide (show (l.length : Int) = d by omega)
      have hl0 : 0 < l.length := by omega
      have hl12 : l.length ≤ 12 := by omega
      have HIN := hide hin
      have HSUM := hide hsum
      obtain ⟨q, hq⟩ : ∃ q, q = n / d := ⟨_, rfl⟩
      obtain ⟨r, hr⟩ : ∃ r, r = n % d := ⟨_, rfl⟩
      rw [← hq] at q1 q2 HIN HAT
      rw [← hr] at q3 q4 HAT
      clear hl hlen hin hsum hat hq hr
      go_wp2_with fail
      refine (Hi.out _).mono ?_
      rintro e w2 ⟨sa2, cap2, rfl, hr, hb⟩
      have B2 := hide (B1.out.trans (hb.mono B1.out.size))
      have L2 := hide hr.lst
      clear hb hr
      go_wp2_with fail
      refine (Hs.out _).mono ?_
      rintro e w3 ⟨sa3, cap3, rfl, hr, hb⟩
      have B3 := hide (B2.out.trans (hb.mono B2.out.size))
      have L3 := hide (L2.out.keep hb)
      have M3 := hide hr.lst
      clear hb hr L2
      go_wp2_with fail
      refine (equalInts_eq sa2 sa3 l cap2 cap3 _ L3.out M3.out (by omega)).mono ?_
      rintro e w4 ⟨rfl, hb⟩
      have B4 := hide (B3.out.trans (hb.mono B3.out.size))
      have L4 := hide (L3.out.keep hb)
      clear hb L3 M3 Hi Hs
      have d0 : ((l.length : Int) == 0) = false := by rw [beq_eq_false_iff_ne]; omega
      go_wp2
      go_loopw [6] (fun i wr => ∃ k : Nat, 1 ≤ k ∧ k ≤ l.length ∧ i = .int .i64 k ∧ Below w.heap.size w wr ∧ Below w4.heap.size w4 wr)
        (fun i _ => l.length - (intOf i).toNat)
      case atStart => exact ⟨1, Nat.le_refl _, hl0, rfl, B4.out, Below.refl _ _⟩
      case round =>
        clear B4
        obtain ⟨k, hk1, hk, rfl, hB, hD⟩ := hrel
        have HB := hide hB
        have HD := hide hD
        clear hB hD
        have LR := hide (L4.out.keep HD.out)
        by_cases hlt : k < l.length
        · obtain ⟨g, off, rfl, hg, c0⟩ := LR.out.at hl0
          obtain ⟨g', off', he, _, c1⟩ := LR.out.at hlt
          cases he
          obtain ⟨g', off', he, _, c2⟩ := LR.out.at (k := k - 1) (by omega)
          cases he
          have v0 := HAT.out 0 hl0
          have v1 := HAT.out k hlt
          have v2 := HAT.out (k - 1) (by omega)
          obtain ⟨x0, e0⟩ : ∃ x, x = l.getD 0 0 := ⟨_, rfl⟩
          obtain ⟨x1, e1⟩ : ∃ x, x = l.getD k 0 := ⟨_, rfl⟩
          obtain ⟨x2, e2⟩ : ∃ x, x = l.getD (k - 1) 0 := ⟨_, rfl⟩
          rw [← e0] at c0 v0
          rw [← e1] at c1 v1
          rw [← e2] at c2 v2
          have f1 : decide (x2 < x1) = false := decide_eq_false (by rw [v1, v2]; split <;> split <;> omega)
          have f2 : decide (x1 < x0 - 1) = false := decide_eq_false (by rw [v1, v0]; split <;> split <;> omega)
          have f3 : 0 ≤ x0 := by rw [v0]; split <;> omega
          have f4 : x0 ≤ 1000001 := by rw [v0]; split <;> omega
          have g1 : IntKind.i64.wrap (x0 - 1) = x0 - 1 := IntWalk.i64_in _ (by omega)
          have g2 : IntKind.i64.wrap ((k : Int) - 1) = (k : Int) - 1 := IntWalk.i64_in _ (by omega)
          have g3 : ((k : Int) - 1).toNat = k - 1 := by omega
          have g4 : 0 ≤ (k : Int) - 1 := by omega
          have g5 : (k : Int) - 1 < (l.length : Int) := by omega
          rw [Nat.add_zero] at c0
          clear e0 e1 e2 v0 v1 v2
          go_wp2
          go_quiet (fail)
          clear g1 g2 g3
          go_wp2
          go_roundw
          case rel => exact ⟨k + 1, by omega, hlt, by go_num, below_draw HB.out, below_draw HD.out⟩
          case measure => simp [intOf]; omega
        · go_wp2_with fail
          refine (lawTotal_any _ _ l (q + 1) _ LR.out (by omega) (by omega) (by omega) HIN.out).mono ?_
          rintro e w' ⟨rfl, rfl⟩
          rw [HSUM.out]
          have f1 : ((l.length : Int) == d) = true := by rw [beq_iff_eq]; exact hdl.out
          go_wp2
          go_ret
          exact ⟨rfl, HB.out⟩
    · have Hi := hide (fun w => implSplitEven_no n d w hv)
      have Hs := hide (fun w => specSplitEven_no n d w hv)
      clear hv
      go_wp2_with fail
      refine (Hi.out _).mono ?_
      rintro e w2 ⟨sa2, cap2, rfl, hr, hb⟩
      have B2 := hide (B1.out.trans (hb.mono B1.out.size))
      have L2 := hide hr.lst
      clear hb hr
      go_wp2_with fail
      refine (Hs.out _).mono ?_
      rintro e w3 ⟨sa3, cap3, rfl, hr, hb⟩
      have B3 := hide (B2.out.trans (hb.mono B2.out.size))
      have L3 := hide (L2.out.keep hb)
      have M3 := hide hr.lst
      clear hb hr L2
      go_wp2_with fail
      refine (equalInts_eq sa2 sa3 [] cap2 cap3 _ L3.out M3.out (by simp)).mono ?_
      rintro e w4 ⟨rfl, hb⟩
      have B4 := hide (B3.out.trans (hb.mono B3.out.size))
      have L4 := hide (L3.out.keep hb)
      clear hb L3 M3
      go_wp2_with fail
      refine (Hs.out _).mono ?_
      rintro e w5 ⟨sa5, cap5, rfl, hr, hb⟩
      have B5 := hide (B4.out.trans (hb.mono B4.out.size))
      have L5 := hide (L4.out.keep hb)
      have M5 := hide hr.lst
      clear hb hr
      go_wp2_with fail
      refine (equalInts_eq sa2 sa5 [] cap2 cap5 _ L5.out M5.out (by simp)).mono ?_
      rintro e w6 ⟨rfl, hb⟩
      have B6 := hide (B5.out.trans (hb.mono B5.out.size))
      clear hb
      go_wp2
      go_ret
      exact ⟨rfl, B6.out⟩
end Go.Proofs.Ytmoefeifaiimaac
