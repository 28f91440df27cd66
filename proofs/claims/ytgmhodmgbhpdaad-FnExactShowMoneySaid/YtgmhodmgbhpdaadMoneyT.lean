/- Texts of amounts: the contracts of ShowMoney, and the walk of the exact law. -/
import Derived.Test.YtgmhodmgbhpdaadMoneyS
namespace Go.Proofs.Ytgmhodmgbhpdaad
open Go.ChangeShapes Go.WideShapes Go.ChangeAt Go.RowKit Go.Joins
set_option linter.unusedVariables false

theorem va_iff {n : Int} : VA n ↔ 0 ≤ n ∧ n ≤ 1000000 := by unfold VA; constructor <;> intro h <;> omega
/-- the text of an amount -/
def smT (n : Nat) : ByteArray := ((tx (nb (n / 100)) ++ (⟨#[46]⟩ : ByteArray)) ++ tx (nb (n / 10 % 10))) ++ tx (nb (n % 10))
open Classical in
noncomputable def smR (n : Int) : ByteArray := if VA n then smT n.toNat else ⟨#[]⟩
theorem smR_yes {m : Nat} (h : (m : Int) ≤ 1000000) : smR (m : Int) = ((tx (nb (m / 100)) ++ (⟨#[46]⟩ : ByteArray)) ++ tx (nb (m / 10 % 10))) ++ tx (nb (m % 10)) := by
  unfold smR; rw [if_pos (va_iff.2 ⟨by omega, h⟩), Int.toNat_natCast]; rfl
theorem smR_no {n : Int} (h : ¬ VA n) : smR n = ⟨#[]⟩ := if_neg h
set_option maxHeartbeats 1000000 in
theorem specShow (n : Int) (w : World) : Calls Try.prog 28 #[.int .i64 n] w (Same (.string (smR n)) w) := by
  by_cases h : VA n
  · have h2 := va_iff.1 h
    obtain ⟨m, rfl⟩ := Int.eq_ofNat_of_zero_le h2.1
    have hmb := h2.2
    have HA := hide (fun w => specAmt_yes (m : Int) w h)
    have HS := hide (smR_yes h2.2)
    have H1 := hide (fun w => specNumber 4 (m / 100) w (by omega) (by omega))
    have H2 := hide (fun w => specNumber 0 (m / 10 % 10) w (by omega) (by omega))
    have H3 := hide (fun w => specNumber 0 (m % 10) w (by omega) (by omega))
    have d1 : (m : Int).tdiv 100 = ((m / 100 : Nat) : Int) := by rw [Int.tdiv_eq_ediv_of_nonneg (by omega), Int.natCast_ediv]; rfl
    have d2 : (m : Int) / 100 = ((m / 100 : Nat) : Int) := by rw [Int.natCast_ediv]; rfl
    have e1 : (m : Int).tdiv 10 = ((m / 10 : Nat) : Int) := by rw [Int.tdiv_eq_ediv_of_nonneg (by omega), Int.natCast_ediv]; rfl
    have e2 : (m : Int) / 10 = ((m / 10 : Nat) : Int) := by rw [Int.natCast_ediv]; rfl
    have f1 : ((m / 10 : Nat) : Int).tmod 10 = ((m / 10 % 10 : Nat) : Int) := by rw [Int.tmod_eq_emod_of_nonneg (by omega), Int.natCast_emod]; rfl
    have f2 : ((m / 10 : Nat) : Int) % 10 = ((m / 10 % 10 : Nat) : Int) := by rw [Int.natCast_emod]; rfl
    have m1 : (m : Int).tmod 10 = ((m % 10 : Nat) : Int) := by rw [Int.tmod_eq_emod_of_nonneg (by omega), Int.natCast_emod]; rfl
    have m2 : (m : Int) % 10 = ((m % 10 : Nat) : Int) := by rw [Int.natCast_emod]; rfl
    have g1 : (tx (nb (m / 100))).size ≤ 5 := by rw [tx_size]; exact nb_len 4 _ (by omega)
    have g2 : (tx (nb (m / 10 % 10))).size ≤ 1 := by rw [tx_size]; exact nb_len 0 _ (by omega)
    have g3 : (tx (nb (m % 10))).size ≤ 1 := by rw [tx_size]; exact nb_len 0 _ (by omega)
    obtain ⟨c, hc⟩ : ∃ c, c = m / 10 % 10 := ⟨_, rfl⟩; rw [← hc] at H2 f1 f2 HS g2
    obtain ⟨a, ha⟩ : ∃ a, a = m / 100 := ⟨_, rfl⟩; rw [← ha] at H1 d1 d2 HS g1
    obtain ⟨b, hb⟩ : ∃ b, b = m / 10 := ⟨_, rfl⟩; rw [← hb] at e1 e2 f1 f2
    obtain ⟨d, hd⟩ : ∃ d, d = m % 10 := ⟨_, rfl⟩; rw [← hd] at H3 m1 m2 HS g3
    obtain ⟨T, hT⟩ : ∃ T, T = smR (m : Int) := ⟨_, rfl⟩; rw [← hT] at HS ⊢
    obtain ⟨A, hA⟩ : ∃ A, A = tx (nb a) := ⟨_, rfl⟩; rw [← hA] at H1 HS g1
    obtain ⟨C, hC⟩ : ∃ C, C = tx (nb c) := ⟨_, rfl⟩; rw [← hC] at H2 HS g2
    obtain ⟨D, hD⟩ : ∃ D, D = tx (nb d) := ⟨_, rfl⟩; rw [← hD] at H3 HS g3
    have k1 : ¬ 9223372036854775807 < A.size + 1 := by omega
    have k2 : ¬ 9223372036854775807 < A.size + 1 + C.size := by omega
    have k3 : ¬ 9223372036854775807 < A.size + 1 + C.size + D.size := by omega
    clear hc ha hb hd hT hA hC hD h h2
    go_enter Try.func28, Try.ntmps28
    go_wp2_with fail; refine (HA.out _).mono ?_; rintro e w' ⟨rfl, rfl⟩
    go_wp2_with fail; refine (H1.out _).mono ?_; rintro e w' ⟨rfl, rfl⟩
    go_wp2_with fail; refine (H2.out _).mono ?_; rintro e w' ⟨rfl, rfl⟩
    go_wp2_with fail; refine (H3.out _).mono ?_; rintro e w' ⟨rfl, rfl⟩
    go_wp2
    go_ret
    exact ⟨by rw [HS.out]; rfl, rfl⟩
  · have HA := hide (fun w => specAmt_no n w h)
    have HS := hide (smR_no h)
    obtain ⟨T, hT⟩ : ∃ T, T = smR n := ⟨_, rfl⟩; rw [← hT] at HS ⊢
    clear hT h
    go_enter Try.func28, Try.ntmps28
    go_wp2_with fail; refine (HA.out _).mono ?_; rintro e w' ⟨rfl, rfl⟩
    go_wp2
    go_ret
    exact ⟨by rw [HS.out]; rfl, rfl⟩
set_option maxHeartbeats 1000000 in
theorem implShow (n : Int) (w : World) : Calls Try.prog 27 #[.int .i64 n] w (Ret (.string (smR n)) w) := by
  by_cases h : VA n
  · have h2 := va_iff.1 h
    obtain ⟨m, rfl⟩ := Int.eq_ofNat_of_zero_le h2.1
    have hmb := h2.2
    have HA := hide (fun w => implAmt_yes (m : Int) w h)
    have HS := hide (smR_yes h2.2)
    have H1 := hide (fun w => implDecimal (m / 100) w (by omega))
    have H2 := hide (fun w => implDecimal (m / 10 % 10) w (by omega))
    have H3 := hide (fun w => implDecimal (m % 10) w (by omega))
    have d1 : (m : Int).tdiv 100 = ((m / 100 : Nat) : Int) := by rw [Int.tdiv_eq_ediv_of_nonneg (by omega), Int.natCast_ediv]; rfl
    have d2 : (m : Int) / 100 = ((m / 100 : Nat) : Int) := by rw [Int.natCast_ediv]; rfl
    have e1 : (m : Int).tdiv 10 = ((m / 10 : Nat) : Int) := by rw [Int.tdiv_eq_ediv_of_nonneg (by omega), Int.natCast_ediv]; rfl
    have e2 : (m : Int) / 10 = ((m / 10 : Nat) : Int) := by rw [Int.natCast_ediv]; rfl
    have f1 : ((m / 10 : Nat) : Int).tmod 10 = ((m / 10 % 10 : Nat) : Int) := by rw [Int.tmod_eq_emod_of_nonneg (by omega), Int.natCast_emod]; rfl
    have f2 : ((m / 10 : Nat) : Int) % 10 = ((m / 10 % 10 : Nat) : Int) := by rw [Int.natCast_emod]; rfl
    have m1 : (m : Int).tmod 10 = ((m % 10 : Nat) : Int) := by rw [Int.tmod_eq_emod_of_nonneg (by omega), Int.natCast_emod]; rfl
    have m2 : (m : Int) % 10 = ((m % 10 : Nat) : Int) := by rw [Int.natCast_emod]; rfl
    have g1 : (tx (nb (m / 100))).size ≤ 5 := by rw [tx_size]; exact nb_len 4 _ (by omega)
    have g2 : (tx (nb (m / 10 % 10))).size ≤ 1 := by rw [tx_size]; exact nb_len 0 _ (by omega)
    have g3 : (tx (nb (m % 10))).size ≤ 1 := by rw [tx_size]; exact nb_len 0 _ (by omega)
    obtain ⟨c, hc⟩ : ∃ c, c = m / 10 % 10 := ⟨_, rfl⟩; rw [← hc] at H2 f1 f2 HS g2
    obtain ⟨a, ha⟩ : ∃ a, a = m / 100 := ⟨_, rfl⟩; rw [← ha] at H1 d1 d2 HS g1
    obtain ⟨b, hb⟩ : ∃ b, b = m / 10 := ⟨_, rfl⟩; rw [← hb] at e1 e2 f1 f2
    obtain ⟨d, hd⟩ : ∃ d, d = m % 10 := ⟨_, rfl⟩; rw [← hd] at H3 m1 m2 HS g3
    obtain ⟨T, hT⟩ : ∃ T, T = smR (m : Int) := ⟨_, rfl⟩; rw [← hT] at HS ⊢
    obtain ⟨A, hA⟩ : ∃ A, A = tx (nb a) := ⟨_, rfl⟩; rw [← hA] at H1 HS g1
    obtain ⟨C, hC⟩ : ∃ C, C = tx (nb c) := ⟨_, rfl⟩; rw [← hC] at H2 HS g2
    obtain ⟨D, hD⟩ : ∃ D, D = tx (nb d) := ⟨_, rfl⟩; rw [← hD] at H3 HS g3
    have k1 : ¬ 9223372036854775807 < A.size + 1 := by omega
    have k2 : ¬ 9223372036854775807 < A.size + 1 + C.size := by omega
    have k3 : ¬ 9223372036854775807 < A.size + 1 + C.size + D.size := by omega
    clear hc ha hb hd hT hA hC hD h h2
    go_enter Try.func27, Try.ntmps27
    go_wp2_with fail; refine (HA.out _).mono ?_; rintro e w' ⟨rfl, rfl⟩
    go_wp2_with fail; refine (H1.out _).mono ?_; rintro e w1 ⟨rfl, E1⟩
    go_wp2_with fail; refine (H2.out _).mono ?_; rintro e w2 ⟨rfl, E2⟩
    go_wp2_with fail; refine (H3.out _).mono ?_; rintro e w3 ⟨rfl, E3⟩
    go_wp2
    go_ret
    exact ⟨by rw [HS.out]; rfl, E1.trans (E2.trans E3)⟩
  · have HA := hide (fun w => implAmt_no n w h)
    have HS := hide (smR_no h)
    obtain ⟨T, hT⟩ : ∃ T, T = smR n := ⟨_, rfl⟩; rw [← hT] at HS ⊢
    clear hT h
    go_enter Try.func27, Try.ntmps27
    go_wp2_with fail; refine (HA.out _).mono ?_; rintro e w' ⟨rfl, rfl⟩
    go_wp2
    go_ret
    exact ⟨by rw [HS.out]; rfl, Ext.refl _⟩
set_option maxHeartbeats 800000 in
theorem walkFnExactShowMoney (w : World) (n0 : Int) :
    Calls Try.prog 8 #[.int .i64 n0] w fun e w' => e = .returned (.bool true) ∧ Below w.heap.size w w' := by
  have H1 := hide (fun w => specShow n0 w)
  have H2 := hide (fun w => implShow n0 w)
  obtain ⟨T, hT⟩ : ∃ T, T = smR n0 := ⟨_, rfl⟩; rw [← hT] at H1 H2
  clear hT
  have hbq : ((T : ByteArray) == T) = true := by cases T with | mk d => (first | (show (d == d) = true; simp) | simp | rfl)
  have hne : ((T : ByteArray) != T) = false := by unfold bne; rw [hbq]; rfl
  go_enter Try.func8, Try.ntmps8
  go_wp2_with fail; refine (H1.out _).mono ?_; rintro e w' ⟨rfl, rfl⟩
  go_wp2_with fail; refine (H2.out _).mono ?_; rintro e w1 ⟨rfl, E1⟩
  go_wp2
  go_ret
  exact ⟨rfl, E1⟩
end Go.Proofs.Ytgmhodmgbhpdaad
