/- The digits of numbers: the contracts of the program's digitsOf and of the model's digits, and of both sums of digits. -/
import Derived.Test.YtmoefeifaiimaacLists
import Derived.Test.YtmoefeifaiimaacAmounts
import Derived.Test.YtmoefeifaiimaacPure2
namespace Go.Proofs.Ytmoefeifaiimaac
open Go.ChangeShapes Go.WideShapes Go.ChangeAt Go.RowKit Go.Joins
set_option linter.unusedVariables false

theorem Row.one (base : Nat) (w : World) (v : Int) (hb : base ≤ w.heap.size) : Row base (w.alloc (.cells #[.int .i64 v] 3)) (some ⟨w.heap.size, 0, none⟩) 1 [v] := by
  refine ⟨by simp, .inr ⟨w.heap.size, 1, #[.int .i64 v], rfl, hb, heap_alloc_new w _, Nat.le_refl _, by unfold maxLen; omega, by simp, by simp⟩⟩

set_option maxHeartbeats 1000000 in
theorem digitsOf_any (n : Nat) (w : World) (hn : n < 10 ^ 12) : Calls Try.prog 41 #[.int .i64 n] w (RetList (rdig n) w) := by
  have hlen := rdig_len 11 n hn
  have Hlen := hide hlen
  have Hsplit := hide (show rdig n = [((n % 10 : Nat) : Int)] ++ (if 0 < n / 10 then rdig (n / 10) else []) by
    by_cases h : n < 10
    · rw [rdig_small n h, if_neg (by omega), Nat.mod_eq_of_lt h]; rfl
    · rw [rdig_big n (by omega), if_pos (by omega)]; rfl)
  clear hlen
  go_enter Try.func41, Try.ntmps41
  go_wp2
  go_loopw [0, 3] (fun a v wr => ∃ (m : Nat) (o : List Int) (sa : Option Addr) (cap : Nat), a = .int .i64 m ∧ m ≤ n ∧ v = .slice sa o.length cap ∧ Row w.heap.size wr sa cap o ∧ o ++ (if 0 < m then rdig m else []) = rdig n ∧ Below w.heap.size w wr)
    (fun a _ _ => (intOf a).toNat)
  case atStart =>
    refine ⟨n / 10, [((n % 10 : Nat) : Int)], _, _, ?_, by omega, rfl, ?_, Hsplit.out.symm, (Below.refl _ _).alloc (Nat.le_refl _) _⟩
    · rw [Int.natCast_ediv]; rfl
    · exact Row.one _ w _ (Nat.le_refl _)
  case round =>
    obtain ⟨m, o, sa, cap, rfl, hm, rfl, hr, ho, hB⟩ := hrel
    have HR := hide hr
    have HB := hide hB
    have HO := hide ho
    clear hr hB ho
    have hol : o.length ≤ 12 := by
      have := Hlen.out
      rw [← HO.out, List.length_append] at this; omega
    by_cases h0 : 0 < m
    · have HN := hide (show (o ++ [((m % 10 : Nat) : Int)]) ++ (if 0 < m / 10 then rdig (m / 10) else []) = rdig n by
        rw [← HO.out, if_pos h0, List.append_assoc]
        by_cases h : m < 10
        · rw [rdig_small m h, if_neg (by omega), Nat.mod_eq_of_lt h]; rfl
        · rw [rdig_big m (by omega), if_pos (by omega)]; rfl)
      go_wp2_with (first | (at_builtin; refine append_int rfl _ _ rfl w.heap.size wr _ _ o _ _ rfl rfl HR.out (by omega) HB.out.size ?_; intro g cap' w2 R2 hb2))
      have HR2 := hide R2
      have B2 := hide (HB.out.trans hb2)
      clear R2 hb2 HR HB
      go_wp2
      go_roundw
      case rel => exact ⟨m / 10, o ++ [_], _, _, by rw [Int.natCast_ediv]; rfl, by omega, by rw [List.length_append]; rfl, HR2.out, HN.out, B2.out⟩
      case measure => simp [intOf]; omega
    · have HF := hide (show rdig n = o by rw [← HO.out, if_neg h0, List.append_nil])
      go_wp2
      go_ret
      exact RetList.of (base := 0) HF.out HR.out HB.out

set_option maxHeartbeats 1000000 in
theorem digits_any (f : Nat) : ∀ (n : Nat) (w : World), n < 10 ^ (f + 1) → f ≤ 11 → Calls Try.prog 39 #[.int .i64 n] w (RetList (rdig n).reverse w) := by
  induction f with
  | zero =>
    intro n w hn _
    have hn' : n < 10 := by simpa using hn
    have HF := hide (show (rdig n).reverse = [(n : Int)] by rw [rdig_small n hn']; rfl)
    clear hn
    go_enter Try.func39, Try.ntmps39
    go_wp2
    go_ret
    exact RetList.of (base := 0) (o := [(n : Int)]) HF.out (Row.one _ w _ (Nat.le_refl _)) ((Below.refl _ _).alloc (Nat.le_refl _) _)
  | succ f ih =>
    intro n w hn hf
    have HI := hide ih
    clear ih
    by_cases hn' : n < 10
    · have HF := hide (show (rdig n).reverse = [(n : Int)] by rw [rdig_small n hn']; rfl)
      clear hn
      go_enter Try.func39, Try.ntmps39
      go_wp2
      go_ret
      exact RetList.of (base := 0) (o := [(n : Int)]) HF.out (Row.one _ w _ (Nat.le_refl _)) ((Below.refl _ _).alloc (Nat.le_refl _) _)
    · have HF := hide (show (rdig n).reverse = (rdig (n / 10)).reverse ++ [((n % 10 : Nat) : Int)] by rw [rdig_big n (by omega)]; simp)
      have hdiv : n / 10 < 10 ^ (f + 1) := by rw [Nat.pow_succ] at hn; omega
      have hlen := rdig_len f (n / 10) hdiv
      have hbig : n < 1000000000000000 := by
        have : (10 : Nat) ^ (f + 1 + 1) ≤ 10 ^ 13 := Nat.pow_le_pow_right (by omega) (by omega)
        omega
      have HC := hide (fun w => HI.out (n / 10) w hdiv (by omega))
      clear HI hn hdiv
      obtain ⟨l, hl⟩ : ∃ l, l = (rdig (n / 10)).reverse := ⟨_, rfl⟩
      have hl' : l.length ≤ 12 := by rw [hl, List.length_reverse]; omega
      rw [← hl] at HC HF
      clear hl hlen
      go_enter Try.func39, Try.ntmps39
      go_wp2_with fail
      refine (HC.out _).mono ?_
      rintro e w1 ⟨sa, cap, rfl, hr, hb⟩
      have R1 := hide hr
      have B1 := hide hb
      clear hr hb
      go_wp2_with (first | (at_builtin; refine append_int rfl _ _ rfl w.heap.size w1 _ _ l _ _ rfl rfl R1.out (by omega) B1.out.size ?_; intro g cap' w2 R2 hb2))
      have HR2 := hide R2
      have B2 := hide (B1.out.trans hb2)
      clear R2 hb2 R1 B1
      go_wp2
      go_ret
      exact ⟨some ⟨g, 0, none⟩, cap', by rw [HF.out, List.length_append]; rfl, by rw [HF.out]; exact HR2.out, B2.out⟩

/-- what a call answers that makes new memory at the most -/
def RetI (n : Int) (w : World) (e : Ending) (w' : World) : Prop := e = .returned (.int .i64 n) ∧ Below w.heap.size w w'

theorem take_snoc_getD (l : List Int) (k : Nat) (h : k < l.length) : l.take (k + 1) = l.take k ++ [l.getD k 0] := by
  rw [List.take_succ_eq_append_getElem h, List.getD_eq_getElem?_getD, List.getElem?_eq_getElem h]; rfl
theorem getD_in {l : List Int} {k : Nat} (h : k < l.length) : l.getD k 0 ∈ l := by
  rw [List.getD_eq_getElem?_getD, List.getElem?_eq_getElem h]; exact List.getElem_mem _
theorem rdig_amt (n : Int) (h : VA n) : (rdig n.toNat).length ≤ 7 := rdig_len 6 _ (by have := h.1; have := h.2; omega)

set_option maxHeartbeats 1000000 in
theorem implDigitSum_yes (n : Int) (w : World) (h : VA n) : Calls Try.prog 15 #[.int .i64 n] w (RetI (ssum (rdig n.toNat)) w) := by
  have hlen := rdig_amt n h
  have hin := rdig_in n.toNat
  obtain ⟨m, rfl⟩ := Int.eq_ofNat_of_zero_le h.1
  rw [Int.toNat_natCast] at hlen hin ⊢
  have HC := hide (fun w => digitsOf_any m w (by have := h.2; omega))
  obtain ⟨l, hl⟩ : ∃ l, l = rdig m := ⟨_, rfl⟩
  rw [← hl] at hlen hin HC ⊢
  have HA := hide hin
  clear hl hin
  go_enter Try.func15, Try.ntmps15
  go_wp2_with fail
  refine (implAmt_yes _ _ h).mono ?_
  rintro e w' ⟨rfl, rfl⟩
  go_wp2_with fail
  refine (HC.out _).mono ?_
  rintro e w1 ⟨sa, cap, rfl, hr, hb⟩
  have L1 := hide hr.lst
  have B1 := hide hb
  clear hr hb
  go_wp2
  go_loop [3, 12] (fun a i => ∃ k : Nat, k ≤ l.length ∧ i = .int .i64 k ∧ a = .int .i64 (ssum (l.take k))) (fun _ i => l.length - (intOf i).toNat)
  case atStart => exact ⟨0, Nat.zero_le _, rfl, rfl⟩
  case round =>
    obtain ⟨k, hk, rfl, rfl⟩ := hrel
    have hs := ssum_in (l.take k) 9 (by omega) (fun x hx => HA.out x (List.mem_of_mem_take hx))
    have htl : (l.take k).length ≤ k := List.length_take_le _ _
    by_cases hlt : k < l.length
    · have Htk := hide (show ssum (l.take (k + 1)) = ssum (l.take k) + l.getD k 0 by rw [take_snoc_getD l k hlt, ssum_snoc])
      have hx := HA.out _ (getD_in hlt)
      obtain ⟨g, off, rfl, hg, hc⟩ := L1.out.at hlt
      obtain ⟨x, hx'⟩ : ∃ x, x = l.getD k 0 := ⟨_, rfl⟩
      obtain ⟨s, hs'⟩ : ∃ s, s = ssum (l.take k) := ⟨_, rfl⟩
      rw [← hx'] at hc hx Htk
      rw [← hs'] at hs Htk ⊢
      clear hx' hs'
      go_wp2
      go_round
      case rel => exact ⟨k + 1, hlt, by go_num, by rw [Htk.out]⟩
      case measure => simp [intOf]; omega
    · have HF := hide (show ssum (l.take k) = ssum l by rw [List.take_of_length_le (by omega)])
      go_wp2
      go_ret
      exact ⟨ret_int HF.out, B1.out⟩
theorem implDigitSum_no (n : Int) (w : World) (h : ¬ VA n) : Calls Try.prog 15 #[.int .i64 n] w (RetI (-1) w) := by
  go_enter Try.func15, Try.ntmps15
  go_wp2_with fail
  refine (implAmt_no _ _ h).mono ?_
  rintro e w' ⟨rfl, rfl⟩
  clear h
  go_wp2
  go_ret
  exact ⟨rfl, Below.refl _ _⟩
set_option maxHeartbeats 1000000 in
theorem total_any (sa : Option Addr) (cap : Nat) (l : List Int) (m : Int) (w : World) (h : Lst w sa l) (hl : l.length ≤ 1000) (hm : 0 ≤ m) (hm2 : m ≤ 1000000000) (hin : ∀ x ∈ l, 0 ≤ x ∧ x ≤ m) :
    Calls Try.prog 38 #[.slice sa l.length cap] w fun e w' => e = .returned (.int .i64 (ssum l)) ∧ w = w' := by
  have H := hide h
  have HA := hide hin
  clear h hin
  go_enter Try.func38, Try.ntmps38
  go_wp2
  go_loop [3, 4] (fun a i => ∃ k : Nat, k ≤ l.length ∧ i = .int .i64 k ∧ a = .int .i64 (ssum (l.take k))) (fun _ i => l.length - (intOf i).toNat)
  case atStart => exact ⟨0, Nat.zero_le _, rfl, rfl⟩
  case round =>
    obtain ⟨k, hk, rfl, rfl⟩ := hrel
    have hs := ssum_in (l.take k) m hm (fun x hx => HA.out x (List.mem_of_mem_take hx))
    have htl : (l.take k).length ≤ k := List.length_take_le _ _
    have hmul : m * ((l.take k).length : Int) ≤ 1000000000 * 1000 := Int.mul_le_mul hm2 (by omega) (by omega) (by omega)
    by_cases hlt : k < l.length
    · have Htk := hide (show ssum (l.take (k + 1)) = ssum (l.take k) + l.getD k 0 by rw [take_snoc_getD l k hlt, ssum_snoc])
      have hx := HA.out _ (getD_in hlt)
      obtain ⟨g, off, rfl, hg, hc⟩ := H.out.at hlt
      obtain ⟨x, hx'⟩ : ∃ x, x = l.getD k 0 := ⟨_, rfl⟩
      obtain ⟨s, hs'⟩ : ∃ s, s = ssum (l.take k) := ⟨_, rfl⟩
      have hs1 : 0 ≤ s := by rw [hs']; exact hs.1
      have hs2 : s ≤ 1000000000000 := by rw [hs']; omega
      rw [← hx'] at hc hx Htk
      rw [← hs'] at Htk ⊢
      clear hx' hs' hs hmul
      go_wp2
      go_round
      case rel => exact ⟨k + 1, hlt, by go_num, by rw [Htk.out]⟩
      case measure => simp [intOf]; omega
    · have HF := hide (show ssum (l.take k) = ssum l by rw [List.take_of_length_le (by omega)])
      go_wp2
      go_ret
      exact ⟨ret_int HF.out, rfl⟩
theorem specDigitSum_yes (n : Int) (w : World) (h : VA n) : Calls Try.prog 14 #[.int .i64 n] w (RetI (ssum (rdig n.toNat)) w) := by
  have hlen := rdig_amt n h
  have hin := rdig_in n.toNat
  obtain ⟨m, rfl⟩ := Int.eq_ofNat_of_zero_le h.1
  rw [Int.toNat_natCast] at hlen hin ⊢
  have HC := hide (fun w => digits_any 6 m w (by have := h.2; omega) (by omega))
  rw [← ssum_reverse]
  have hin2 : ∀ x ∈ (rdig m).reverse, 0 ≤ x ∧ x ≤ 9 := fun x hx => hin x (List.mem_reverse.1 hx)
  have hlen2 : (rdig m).reverse.length ≤ 7 := by rw [List.length_reverse]; exact hlen
  obtain ⟨l, hl⟩ : ∃ l, l = (rdig m).reverse := ⟨_, rfl⟩
  rw [← hl] at hlen2 hin2 HC ⊢
  have HA := hide hin2
  clear hl hin hin2 hlen
  go_enter Try.func14, Try.ntmps14
  go_wp2_with fail
  refine (specAmt_yes _ _ h).mono ?_
  rintro e w' ⟨rfl, rfl⟩
  go_wp2_with fail
  refine (HC.out _).mono ?_
  rintro e w1 ⟨sa, cap, rfl, hr, hb⟩
  have L1 := hide hr.lst
  have B1 := hide hb
  clear hr hb
  go_wp2_with fail
  refine (total_any sa cap l 9 _ L1.out (by omega) (by omega) (by omega) HA.out).mono ?_
  rintro e w' ⟨rfl, rfl⟩
  go_wp2
  go_ret
  exact ⟨rfl, B1.out⟩
theorem specDigitSum_no (n : Int) (w : World) (h : ¬ VA n) : Calls Try.prog 14 #[.int .i64 n] w (RetI (-1) w) := by
  go_enter Try.func14, Try.ntmps14
  go_wp2_with fail
  refine (specAmt_no _ _ h).mono ?_
  rintro e w' ⟨rfl, rfl⟩
  clear h
  go_wp2
  go_ret
  exact ⟨rfl, Below.refl _ _⟩

set_option maxHeartbeats 1000000 in
theorem implAlternateSum_yes (n : Int) (w : World) (h : VA n) : Calls Try.prog 17 #[.int .i64 n] w (RetI (alt (rdig n.toNat) (rdig n.toNat).length) w) := by
  have hlen := rdig_amt n h
  have hin := rdig_in n.toNat
  obtain ⟨m, rfl⟩ := Int.eq_ofNat_of_zero_le h.1
  rw [Int.toNat_natCast] at hlen hin ⊢
  have HC := hide (fun w => digitsOf_any m w (by have := h.2; omega))
  obtain ⟨l, hl⟩ : ∃ l, l = rdig m := ⟨_, rfl⟩
  rw [← hl] at hlen hin HC ⊢
  have HA := hide hin
  clear hl hin
  go_enter Try.func17, Try.ntmps17
  go_wp2_with fail
  refine (implAmt_yes _ _ h).mono ?_
  rintro e w' ⟨rfl, rfl⟩
  go_wp2_with fail
  refine (HC.out _).mono ?_
  rintro e w1 ⟨sa, cap, rfl, hr, hb⟩
  have L1 := hide hr.lst
  have B1 := hide hb
  clear hr hb
  go_wp2
  go_loop [3, 4, 13] (fun a s i => ∃ k : Nat, k ≤ l.length ∧ i = .int .i64 k ∧ a = .int .i64 (alt l k) ∧ s = .int .i64 (sgn k)) (fun _ _ i => l.length - (intOf i).toNat)
  case atStart => exact ⟨0, Nat.zero_le _, rfl, rfl, rfl⟩
  case round =>
    obtain ⟨k, hk, rfl, rfl, rfl⟩ := hrel
    have hs := alt_in l HA.out k hk
    by_cases hlt : k < l.length
    · have hx := HA.out _ (getD_in hlt)
      obtain ⟨g, off, rfl, hg, hc⟩ := L1.out.at hlt
      have HS := hide (show alt l (k + 1) = alt l k + sgn k * l.getD k 0 from rfl)
      have HG := hide (sgn_succ k)
      have hsg := sgn_in k
      obtain ⟨x, hx'⟩ : ∃ x, x = l.getD k 0 := ⟨_, rfl⟩
      obtain ⟨a, ha⟩ : ∃ a, a = alt l k := ⟨_, rfl⟩
      obtain ⟨s, hs'⟩ : ∃ s, s = sgn k := ⟨_, rfl⟩
      rw [← hx'] at hc hx HS
      rw [← hs'] at HS HG hsg ⊢
      rw [← ha] at hs HS ⊢
      clear hx' hs' ha
      rcases hsg with rfl | rfl
      · have HS2 := hide (show a + x = alt l (k + 1) by rw [HS.out]; omega)
        clear HS
        go_wp2
        go_round
        case rel => exact ⟨k + 1, hlt, by go_num, by rw [← HS2.out], by rw [HG.out]⟩
        case measure => simp [intOf]; omega
      · have HS2 := hide (show a + -x = alt l (k + 1) by rw [HS.out]; omega)
        clear HS
        go_wp2
        go_round
        case rel => exact ⟨k + 1, hlt, by go_num, by rw [← HS2.out], by rw [HG.out]; rfl⟩
        case measure => simp [intOf]; omega
    · obtain rfl : k = l.length := by omega
      go_wp2
      go_ret
      exact ⟨rfl, B1.out⟩
theorem implAlternateSum_no (n : Int) (w : World) (h : ¬ VA n) : Calls Try.prog 17 #[.int .i64 n] w (RetI 0 w) := by
  go_enter Try.func17, Try.ntmps17
  go_wp2_with fail
  refine (implAmt_no _ _ h).mono ?_
  rintro e w' ⟨rfl, rfl⟩
  clear h
  go_wp2
  go_ret
  exact ⟨rfl, Below.refl _ _⟩
set_option maxHeartbeats 1000000 in
theorem specAlternateSum_yes (n : Int) (w : World) (h : VA n) : Calls Try.prog 18 #[.int .i64 n] w (RetI (alt (rdig n.toNat) (rdig n.toNat).length) w) := by
  have hlen := rdig_amt n h
  have hin := rdig_in n.toNat
  obtain ⟨m, rfl⟩ := Int.eq_ofNat_of_zero_le h.1
  rw [Int.toNat_natCast] at hlen hin ⊢
  have HC := hide (fun w => digits_any 6 m w (by have := h.2; omega) (by omega))
  obtain ⟨l, hl⟩ : ∃ l, l = rdig m := ⟨_, rfl⟩
  rw [← hl] at hlen hin HC ⊢
  have HA := hide hin
  have HV := hide (show ∀ k, k < l.length → l.reverse.getD (l.length - 1 - k) 0 = l.getD k 0 from fun k hk => by
    rw [List.getD_eq_getElem?_getD, List.getD_eq_getElem?_getD, List.getElem?_reverse (by omega)]
    rw [show l.length - 1 - (l.length - 1 - k) = k by omega])
  have hrl : l.reverse.length = l.length := List.length_reverse
  obtain ⟨r, hr'⟩ : ∃ r, r = l.reverse := ⟨_, rfl⟩
  rw [← hr'] at HC HV hrl
  have HRL := hide hrl
  have hrl2 : r.length ≤ 7 := by omega
  clear hl hin hr' hrl
  go_enter Try.func18, Try.ntmps18
  go_wp2_with fail
  refine (specAmt_yes _ _ h).mono ?_
  rintro e w' ⟨rfl, rfl⟩
  go_wp2_with fail
  refine (HC.out _).mono ?_
  rintro e w1 ⟨sa, cap, rfl, hr, hb⟩
  have L1 := hide hr.lst
  have B1 := hide hb
  clear hr hb
  go_wp2
  go_loop [3, 5, 6] (fun a s i => ∃ k : Nat, k ≤ r.length ∧ i = .int .i64 ((r.length : Int) - 1 - k) ∧ a = .int .i64 (alt l k) ∧ s = .int .i64 (sgn k)) (fun _ _ i => (intOf i + 1).toNat)
  case atStart => exact ⟨0, Nat.zero_le _, by go_num, rfl, rfl⟩
  case round =>
    obtain ⟨k, hk, rfl, rfl, rfl⟩ := hrel
    have hs := alt_in l HA.out k (by rw [← HRL.out]; exact hk)
    by_cases hlt : k < r.length
    · have hlt' : k < l.length := by rw [← HRL.out]; exact hlt
      have hx := HA.out _ (getD_in hlt')
      have hv := HV.out k hlt'
      rw [← HRL.out] at hv
      obtain ⟨g, off, rfl, hg, hc⟩ := L1.out.at (k := r.length - 1 - k) (by omega)
      have HS := hide (show alt l (k + 1) = alt l k + sgn k * l.getD k 0 from rfl)
      have HG := hide (sgn_succ k)
      have hsg := sgn_in k
      rw [hv] at hc
      obtain ⟨x, hx'⟩ : ∃ x, x = l.getD k 0 := ⟨_, rfl⟩
      obtain ⟨a, ha⟩ : ∃ a, a = alt l k := ⟨_, rfl⟩
      obtain ⟨s, hs'⟩ : ∃ s, s = sgn k := ⟨_, rfl⟩
      rw [← hx'] at hc hx HS
      rw [← hs'] at HS HG hsg ⊢
      rw [← ha] at hs HS ⊢
      clear hx' hs' ha hv
      have hnat : ((r.length : Int) - 1 - k).toNat = r.length - 1 - k := by omega
      have hi0 : 0 ≤ (r.length : Int) - 1 - k := by omega
      have hi1 : (r.length : Int) - 1 - k < (r.length : Int) := by omega
      rcases hsg with rfl | rfl
      · have HS2 := hide (show a + x = alt l (k + 1) by rw [HS.out]; omega)
        clear HS
        go_wp2
        go_round
        case rel => exact ⟨k + 1, hlt, by go_num, by rw [← HS2.out], by rw [HG.out]⟩
        case measure => simp [intOf]; omega
      · have HS2 := hide (show a + -x = alt l (k + 1) by rw [HS.out]; omega)
        clear HS
        go_wp2
        go_round
        case rel => exact ⟨k + 1, hlt, by go_num, by rw [← HS2.out], by rw [HG.out]; rfl⟩
        case measure => simp [intOf]; omega
    · have HF := hide (show alt l k = alt l l.length by rw [show k = l.length by have := HRL.out; omega])
      have hneg : (r.length : Int) - 1 - k < 0 := by omega
      go_wp2
      go_ret
      exact ⟨ret_int HF.out, B1.out⟩
theorem specAlternateSum_no (n : Int) (w : World) (h : ¬ VA n) : Calls Try.prog 18 #[.int .i64 n] w (RetI 0 w) := by
  go_enter Try.func18, Try.ntmps18
  go_wp2_with fail
  refine (specAmt_no _ _ h).mono ?_
  rintro e w' ⟨rfl, rfl⟩
  clear h
  go_wp2
  go_ret
  exact ⟨rfl, Below.refl _ _⟩
end Go.Proofs.Ytmoefeifaiimaac
