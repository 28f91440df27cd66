/- Exchanged digits: plain numbers, and the contracts of the helpers. -/
import Derived.Test.YtmoefeifaiimaacDigits
namespace Go.Proofs.Ytmoefeifaiimaac
open Go.ChangeShapes Go.WideShapes Go.ChangeAt Go.RowKit Go.Joins
set_option linter.unusedVariables false

/-- the number of decimal digits, the first one first -/
def valL : List Int → Int → Int
  | [], v => v
  | d :: l, v => valL l (10 * v + d)
theorem valL_snoc (l : List Int) (x v : Int) : valL (l ++ [x]) v = 10 * valL l v + x := by
  induction l generalizing v with
  | nil => rfl
  | cons d l ih => exact ih _
theorem valL_append (a b : List Int) (v : Int) : valL (a ++ b) v = valL b (valL a v) := by
  induction a generalizing v with
  | nil => rfl
  | cons d l ih => exact ih _
theorem valL_lin (l : List Int) (v w : Int) : valL l (v + w) = valL l v + w * 10 ^ l.length := by
  induction l generalizing v w with
  | nil => simp [valL]
  | cons d l ih =>
    simp only [valL, List.length_cons]
    rw [show 10 * (v + w) + d = (10 * v + d) + 10 * w by omega, ih, Int.pow_succ]
    rw [show 10 * w * 10 ^ l.length = w * (10 ^ l.length * 10) by rw [Int.mul_comm (10 ^ l.length) 10, ← Int.mul_assoc, Int.mul_comm w 10]]
theorem valL_rdig (n : Nat) : valL (rdig n).reverse 0 = n := by
  induction n using Nat.strongRecOn with
  | _ n ih =>
    by_cases h : n < 10
    · rw [rdig_small n h]; simp [valL]
    · rw [rdig_big n (by omega), List.reverse_cons, valL_snoc, ih (n / 10) (by omega)]; omega
theorem valL_in (l : List Int) (v : Int) (h : ∀ x ∈ l, 0 ≤ x ∧ x ≤ 9) (hv : 0 ≤ v) : 0 ≤ valL l v ∧ valL l v + 1 ≤ (v + 1) * 10 ^ l.length := by
  induction l generalizing v with
  | nil => simp [valL, hv]
  | cons d l ih =>
    have hd := h d (by simp)
    have h1 := ih (10 * v + d) (fun y hy => h y (by simp [hy])) (by omega)
    refine ⟨h1.1, Int.le_trans h1.2 ?_⟩
    rw [List.length_cons, Int.pow_succ, show (v + 1) * (10 ^ l.length * 10) = (10 * (v + 1)) * 10 ^ l.length by rw [Int.mul_comm (10 ^ l.length) 10, ← Int.mul_assoc, Int.mul_comm (v + 1) 10]]
    exact Int.mul_le_mul_of_nonneg_right (by omega) (Int.le_of_lt (Int.pow_pos (by omega)))
/-- two neighbouring digits exchanged -/
theorem valL_swap (p s : List Int) (a b : Int) : valL (p ++ [b, a] ++ s) 0 = valL (p ++ [a, b] ++ s) 0 + 9 * (b - a) * 10 ^ s.length := by
  simp only [valL_append, valL]
  rw [← valL_lin]; congr 1; omega
/-- what a place of the digits (the last one first) gives: the exchange of the digits j and j + 1 from the front -/
def swapAt (n : Int) (r : List Int) (i : Nat) : List Int :=
  if r.getD (i - 1) 0 - r.getD i 0 ≠ 0 ∧ ¬ (i = r.length - 1 ∧ r.getD (i - 1) 0 = 0) then [n + 9 * (r.getD (i - 1) 0 - r.getD i 0) * 10 ^ (i - 1)] else []
/-- the exchanges of the first k pairs -/
def swapL (n : Int) (r : List Int) : Nat → List Int
  | 0 => []
  | k + 1 => swapL n r k ++ swapAt n r (r.length - 1 - k)
theorem swapAt_len (n : Int) (r : List Int) (i : Nat) : (swapAt n r i).length ≤ 1 := by unfold swapAt; split <;> simp
theorem swapL_len (n : Int) (r : List Int) (k : Nat) : (swapL n r k).length ≤ k := by
  induction k with
  | zero => simp [swapL]
  | succ k ih => have := swapAt_len n r (r.length - 1 - k); simp only [swapL, List.length_append]; omega
theorem pow_in (k : Nat) (h : k ≤ 12) : (1 : Int) ≤ 10 ^ k ∧ (10 : Int) ^ k ≤ 1000000000000 := by
  rcases k with _|_|_|_|_|_|_|_|_|_|_|_|_|k <;> first | (constructor <;> decide) | omega
theorem mul9_in (d p : Int) (h1 : -9 ≤ d) (h2 : d ≤ 9) (h3 : 0 ≤ p) (h4 : p ≤ 1000000000000) : -100000000000000 ≤ 9 * d * p ∧ 9 * d * p ≤ 100000000000000 := by
  have a := Int.mul_le_mul_of_nonneg_right h2 h3
  have b := Int.mul_le_mul_of_nonneg_right h1 h3
  rw [Int.mul_assoc]; omega

set_option maxHeartbeats 1000000 in
theorem powerOfTen_any (k : Nat) (w : World) (hk : k ≤ 12) : Calls Try.prog 44 #[.int .i64 k] w fun e w' => e = .returned (.int .i64 (10 ^ k)) ∧ w = w' := by
  go_enter Try.func44, Try.ntmps44
  go_wp2
  go_loop [3, 4] (fun p i => ∃ j : Nat, j ≤ k ∧ i = .int .i64 j ∧ p = .int .i64 (10 ^ j)) (fun _ i => k - (intOf i).toNat)
  case atStart => exact ⟨0, Nat.zero_le _, rfl, rfl⟩
  case round =>
    obtain ⟨j, hj, rfl, rfl⟩ := hrel
    have hp := pow_in j (by omega)
    by_cases hlt : j < k
    · have HS := hide (show (10 : Int) ^ (j + 1) = 10 ^ j * 10 from Int.pow_succ ..)
      obtain ⟨p, hp'⟩ : ∃ p, p = (10 : Int) ^ j := ⟨_, rfl⟩
      rw [← hp'] at hp HS ⊢
      clear hp'
      go_wp2
      go_round
      case rel => exact ⟨j + 1, hlt, by go_num, by rw [HS.out]⟩
      case measure => simp [intOf]; omega
    · obtain rfl : j = k := by omega
      obtain ⟨p, hp'⟩ : ∃ p, p = (10 : Int) ^ j := ⟨_, rfl⟩
      rw [← hp'] at hp ⊢
      have HP := hide hp'
      clear hp'
      go_wp2
      go_ret
      exact ⟨ret_int HP.out, rfl⟩
set_option maxHeartbeats 1000000 in
theorem valueOf_any (sa : Option Addr) (cap : Nat) (l : List Int) (w : World) (h : Lst w sa l) (hl : l.length ≤ 12) (hin : ∀ x ∈ l, 0 ≤ x ∧ x ≤ 9) :
    Calls Try.prog 57 #[.slice sa l.length cap] w fun e w' => e = .returned (.int .i64 (valL l 0)) ∧ w = w' := by
  have H := hide h
  have HA := hide hin
  clear h hin
  go_enter Try.func57, Try.ntmps57
  go_wp2
  go_loop [3, 4] (fun a i => ∃ k : Nat, k ≤ l.length ∧ i = .int .i64 k ∧ a = .int .i64 (valL (l.take k) 0)) (fun _ i => l.length - (intOf i).toNat)
  case atStart => exact ⟨0, Nat.zero_le _, rfl, rfl⟩
  case round =>
    obtain ⟨k, hk, rfl, rfl⟩ := hrel
    have hs := valL_in (l.take k) 0 (fun x hx => HA.out x (List.mem_of_mem_take hx)) (Int.le_refl _)
    have hpw := pow_in (l.take k).length (Nat.le_trans (List.length_take_le _ _) (by omega))
    by_cases hlt : k < l.length
    · have Htk := hide (show valL (l.take (k + 1)) 0 = 10 * valL (l.take k) 0 + l.getD k 0 by rw [take_snoc_getD l k hlt, valL_snoc])
      have hx := HA.out _ (getD_in hlt)
      obtain ⟨g, off, rfl, hg, hc⟩ := H.out.at hlt
      obtain ⟨x, hx'⟩ : ∃ x, x = l.getD k 0 := ⟨_, rfl⟩
      obtain ⟨s, hs'⟩ : ∃ s, s = valL (l.take k) 0 := ⟨_, rfl⟩
      have hs1 : 0 ≤ s := by rw [hs']; exact hs.1
      have hs2 : s ≤ 1000000000000 := by rw [hs']; omega
      rw [← hx'] at hc hx Htk
      rw [← hs'] at Htk ⊢
      clear hx' hs' hs hpw
      go_wp2
      go_round
      case rel => exact ⟨k + 1, hlt, by go_num, by rw [Htk.out]⟩
      case measure => simp [intOf]; omega
    · have HF := hide (show valL (l.take k) 0 = valL l 0 by rw [List.take_of_length_le (by omega)])
      go_wp2
      go_ret
      exact ⟨ret_int HF.out, rfl⟩
theorem implSwapped_no (n : Int) (w : World) (h : ¬ VA n) : Calls Try.prog 20 #[.int .i64 n] w (RetList [] w) := by
  go_enter Try.func20, Try.ntmps20
  go_wp2_with fail
  refine (implAmt_no _ _ h).mono ?_
  rintro e w' ⟨rfl, rfl⟩
  clear h
  go_wp2
  go_ret
  exact ⟨none, 0, rfl, Row.nil _ _, Below.refl _ _⟩
set_option maxHeartbeats 2000000 in
theorem implSwapped_yes (n : Int) (w : World) (h : VA n) : Calls Try.prog 20 #[.int .i64 n] w (RetList (swapL n (rdig n.toNat) ((rdig n.toNat).length - 1)) w) := by
  obtain ⟨n1, n2⟩ := id h
  have hlen := rdig_amt n h
  have hin := rdig_in n.toNat
  have hne : 1 ≤ (rdig n.toNat).length := by
    have := rdig_ne n.toNat
    rcases hq : rdig n.toNat with _ | ⟨a, t⟩
    · exact absurd hq this
    · simp
  have HC := hide (show ∀ w, Calls Try.prog 41 #[.int .i64 n] w (RetList (rdig n.toNat) w) from fun w => by
    have := digitsOf_any n.toNat w (by omega)
    rwa [Int.toNat_of_nonneg n1] at this)
  obtain ⟨l, hl⟩ : ∃ l, l = rdig n.toNat := ⟨_, rfl⟩
  rw [← hl] at hlen hin hne HC ⊢
  have HA := hide hin
  clear hl hin
  go_enter Try.func20, Try.ntmps20
  go_wp2_with fail
  refine (implAmt_yes _ _ h).mono ?_
  rintro e w' ⟨rfl, rfl⟩
  go_wp2_with fail
  refine (HC.out _).mono ?_
  rintro e w1 ⟨sa1, cap1, rfl, hr1, hb1⟩
  have L1 := hide hr1.lst
  have B1 := hide hb1
  clear hr1 hb1 HC h
  go_wp2
  go_loopw [4, 5] (fun v i wr => ∃ (k : Nat) (o : List Int) (sa : Option Addr) (cap : Nat), k < l.length ∧ i = .int .i64 k ∧ v = .slice sa o.length cap ∧ o = swapL n l (l.length - 1 - k) ∧ Row w1.heap.size wr sa cap o ∧ Below w1.heap.size w1 wr)
    (fun _ i _ => (intOf i).toNat)
  case atStart => exact ⟨l.length - 1, [], _, _, by omega, by congr 1; omega, rfl, by rw [Nat.sub_self]; rfl, Row.nil _ _, Below.refl _ _⟩
  case round =>
    obtain ⟨k, o, sa, cap, hk, rfl, rfl, ho, hr, hB⟩ := hrel
    have HR := hide hr
    have HB := hide hB
    have HO := hide ho
    clear hr hB ho
    by_cases hlt : 0 < k
    · obtain ⟨g, off, he, hg, c1⟩ := (L1.out.keep HB.out).at hk
      obtain ⟨g', off', he', _, c2⟩ := (L1.out.keep HB.out).at (k := k - 1) (by omega)
      have hx1 := HA.out _ (getD_in hk)
      have hx2 := HA.out _ (getD_in (k := k - 1) (l := l) (by omega))
      have HS := hide (show swapL n l (l.length - 1 - (k - 1)) = o ++ swapAt n l k by
        rw [HO.out, show l.length - 1 - (k - 1) = (l.length - 1 - k) + 1 by omega, swapL, show l.length - 1 - (l.length - 1 - k) = k by omega])
      unfold swapAt at HS
      obtain ⟨x1, e1⟩ : ∃ x, x = l.getD k 0 := ⟨_, rfl⟩
      obtain ⟨x2, e2⟩ : ∃ x, x = l.getD (k - 1) 0 := ⟨_, rfl⟩
      rw [← e1] at c1 hx1 HS
      rw [← e2] at c2 hx2 HS
      subst he
      cases he'
      have g2 : IntKind.i64.wrap ((k : Int) - 1) = (k : Int) - 1 := IntWalk.i64_in _ (by omega)
      have g3 : ((k : Int) - 1).toNat = k - 1 := by omega
      have g4 : 0 ≤ (k : Int) - 1 := by omega
      have g5 : (k : Int) - 1 < (l.length : Int) := by omega
      have hpw := pow_in (k - 1) (by omega)
      have hol : o.length ≤ 100 := by have := swapL_len n l (l.length - 1 - k); rw [HO.out]; omega
      have HP := hide (fun w => powerOfTen_any (k - 1) w (by omega))
      have hk1 := hide (show ((k - 1 : Nat) : Int) = (k : Int) - 1 by omega)
      rw [hk1.out] at HP
      clear e1 e2
      have g6 : IntKind.i64.wrap ((l.length : Int) - 1) = (l.length : Int) - 1 := IntWalk.i64_in _ (by omega)
      have g7 : IntKind.i64.wrap (x2 - x1) = x2 - x1 := IntWalk.i64_in _ (by omega)
      go_wp2
      go_quiet (fail)
      by_cases hr0 : x2 - x1 = 0
      · have HN := hide (show swapL n l (l.length - 1 - (k - 1)) = o by rw [HS.out, if_neg (by omega), List.append_nil])
        have r0 : ((x2 - x1) == 0) = true := by rw [beq_iff_eq]; exact hr0
        have r1 : ((x2 - x1) != 0) = false := by rw [bne, r0]; rfl
        have r2 : decide (x2 - x1 = 0) = true := decide_eq_true hr0
        have r3 : decide (x2 - x1 ≠ 0) = false := decide_eq_false (fun h => h hr0)
        by_cases hf : k = l.length - 1
        · have f0 : ((k : Int) == (l.length : Int) - 1) = true := by rw [beq_iff_eq]; omega
          by_cases hz : x2 = 0
          · have z0 : (x2 == 0) = true := by rw [beq_iff_eq]; exact hz
            clear HS hr0 hf hz
            go_wp2
            go_roundw
            case rel => exact ⟨k - 1, o, _, _, by omega, by congr 1; omega, rfl, HN.out.symm, HR.out, below_draw HB.out⟩
            case measure => simp [intOf]; omega
          · have z0 : (x2 == 0) = false := by rw [beq_eq_false_iff_ne]; exact hz
            clear HS hr0 hf hz
            go_wp2
            go_roundw
            case rel => exact ⟨k - 1, o, _, _, by omega, by congr 1; omega, rfl, HN.out.symm, HR.out, below_draw HB.out⟩
            case measure => simp [intOf]; omega
        · have f0 : ((k : Int) == (l.length : Int) - 1) = false := by rw [beq_eq_false_iff_ne]; omega
          clear HS hr0 hf
          go_wp2
          go_roundw
          case rel => exact ⟨k - 1, o, _, _, by omega, by congr 1; omega, rfl, HN.out.symm, HR.out, below_draw HB.out⟩
          case measure => simp [intOf]; omega
      · have r0 : ((x2 - x1) == 0) = false := by rw [beq_eq_false_iff_ne]; exact hr0
        have r1 : ((x2 - x1) != 0) = true := by rw [bne, r0]; rfl
        have r2 : decide (x2 - x1 = 0) = false := decide_eq_false hr0
        have r3 : decide (x2 - x1 ≠ 0) = true := decide_eq_true hr0
        by_cases hf : k = l.length - 1
        · have f0 : ((k : Int) == (l.length : Int) - 1) = true := by rw [beq_iff_eq]; omega
          by_cases hz : x2 = 0
          · have z0 : (x2 == 0) = true := by rw [beq_iff_eq]; exact hz
            have HN := hide (show swapL n l (l.length - 1 - (k - 1)) = o by rw [HS.out, if_neg (by omega), List.append_nil])
            clear HS hr0 hf hz
            go_wp2
            go_roundw
            case rel => exact ⟨k - 1, o, _, _, by omega, by congr 1; omega, rfl, HN.out.symm, HR.out, below_draw HB.out⟩
            case measure => simp [intOf]; omega
          · have z0 : (x2 == 0) = false := by rw [beq_eq_false_iff_ne]; exact hz
            have P1 := hide (show o ++ [n + 9 * (x2 - x1) * 10 ^ (k - 1)] = swapL n l (l.length - 1 - (k - 1)) by rw [HS.out, if_pos ⟨by omega, by omega⟩])
            obtain ⟨p, hp'⟩ : ∃ p, p = (10 : Int) ^ (k - 1) := ⟨_, rfl⟩
            rw [← hp'] at P1 HP hpw
            clear HS hr0 hp' hf hz
            go_wp2_with fail
            refine (HP.out _).mono ?_
            rintro e w' ⟨rfl, rfl⟩
            have hq := mul9_in (x2 - x1) p (by omega) (by omega) (by omega) (by omega)
            have k1 : IntKind.i64.wrap (9 * (x2 - x1)) = 9 * (x2 - x1) := IntWalk.i64_in _ (by omega)
            have k2 : IntKind.i64.wrap (9 * (x2 - x1) * p) = 9 * (x2 - x1) * p := IntWalk.i64_in _ (by omega)
            have k3 : IntKind.i64.wrap (n + 9 * (x2 - x1) * p) = n + 9 * (x2 - x1) * p := IntWalk.i64_in _ (by omega)
            have k2' : wrap64 (9 * (x2 - x1) * p) = 9 * (x2 - x1) * p := IntWalk.wrap64_in _ (by omega)
            have k3' : wrap64 (n + 9 * (x2 - x1) * p) = n + 9 * (x2 - x1) * p := IntWalk.wrap64_in _ (by omega)
            have BD : Below w1.heap.size w1 (wr.drewN nq) := below_draw HB.out
            have RD : Row w1.heap.size (wr.drewN nq) sa cap o := HR.out
            have HBD := hide BD
            have HRD := hide RD
            clear BD RD HR HB HP hq
            go_wp2_with (first | (at_builtin; refine append_int rfl _ _ rfl w1.heap.size (wr.drewN nq) _ _ o (n + 9 * (x2 - x1) * p) _ rfl rfl HRD.out (by omega) HBD.out.size ?_; intro g2 cap' w2 R2 hb2))
            rw [P1.out] at R2
            have HR2 := hide R2
            have B2 := hide (HBD.out.trans hb2)
            have HL := hide (show (swapL n l (l.length - 1 - (k - 1))).length = o.length + 1 by rw [← P1.out]; simp)
            clear R2 hb2 HRD HBD k1 k2 k3 k2' k3'
            go_wp2
            go_roundw
            case rel => exact ⟨k - 1, _, _, _, by omega, by congr 1; omega, by rw [HL.out], rfl, HR2.out, B2.out⟩
            case measure => simp [intOf]; omega
        · have f0 : ((k : Int) == (l.length : Int) - 1) = false := by rw [beq_eq_false_iff_ne]; omega
          have P1 := hide (show o ++ [n + 9 * (x2 - x1) * 10 ^ (k - 1)] = swapL n l (l.length - 1 - (k - 1)) by rw [HS.out, if_pos ⟨by omega, by omega⟩])
          obtain ⟨p, hp'⟩ : ∃ p, p = (10 : Int) ^ (k - 1) := ⟨_, rfl⟩
          rw [← hp'] at P1 HP hpw
          clear HS hr0 hp' hf
          go_wp2_with fail
          refine (HP.out _).mono ?_
          rintro e w' ⟨rfl, rfl⟩
          have hq := mul9_in (x2 - x1) p (by omega) (by omega) (by omega) (by omega)
          have k1 : IntKind.i64.wrap (9 * (x2 - x1)) = 9 * (x2 - x1) := IntWalk.i64_in _ (by omega)
          have k2 : IntKind.i64.wrap (9 * (x2 - x1) * p) = 9 * (x2 - x1) * p := IntWalk.i64_in _ (by omega)
          have k3 : IntKind.i64.wrap (n + 9 * (x2 - x1) * p) = n + 9 * (x2 - x1) * p := IntWalk.i64_in _ (by omega)
          have k2' : wrap64 (9 * (x2 - x1) * p) = 9 * (x2 - x1) * p := IntWalk.wrap64_in _ (by omega)
          have k3' : wrap64 (n + 9 * (x2 - x1) * p) = n + 9 * (x2 - x1) * p := IntWalk.wrap64_in _ (by omega)
          have BD : Below w1.heap.size w1 (wr.drewN nq) := below_draw HB.out
          have RD : Row w1.heap.size (wr.drewN nq) sa cap o := HR.out
          have HBD := hide BD
          have HRD := hide RD
          clear BD RD HR HB HP hq
          go_wp2_with (first | (at_builtin; refine append_int rfl _ _ rfl w1.heap.size (wr.drewN nq) _ _ o (n + 9 * (x2 - x1) * p) _ rfl rfl HRD.out (by omega) HBD.out.size ?_; intro g2 cap' w2 R2 hb2))
          rw [P1.out] at R2
          have HR2 := hide R2
          have B2 := hide (HBD.out.trans hb2)
          have HL := hide (show (swapL n l (l.length - 1 - (k - 1))).length = o.length + 1 by rw [← P1.out]; simp)
          clear R2 hb2 HRD HBD k1 k2 k3 k2' k3'
          go_wp2
          go_roundw
          case rel => exact ⟨k - 1, _, _, _, by omega, by congr 1; omega, by rw [HL.out], rfl, HR2.out, B2.out⟩
          case measure => simp [intOf]; omega
    · obtain rfl : k = 0 := by omega
      have HF := hide HO.out
      go_wp2
      go_ret
      exact RetList.of (base := 0) (by rw [← Nat.sub_zero (l.length - 1)]; exact HF.out.symm) (HR.out.le (by have := B1.out.size; omega)) (B1.out.trans (HB.out.mono B1.out.size))
end Go.Proofs.Ytmoefeifaiimaac
