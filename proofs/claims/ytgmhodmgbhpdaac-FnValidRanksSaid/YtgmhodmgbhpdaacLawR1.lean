/- Chapter 2: the walks of the laws on preferences, at drawn arguments. -/
import Derived.Test.YtgmhodmgbhpdaacRanks5
import Derived.Test.YtgmhodmgbhpdaacDrawT
namespace Go.Proofs.Ytgmhodmgbhpdaac
open Go.ChangeShapes Go.WideShapes Go.ChangeAt Go.RowKit Go.Joins Go.Sort
set_option linter.unusedVariables false

theorem fst_spec {p : Nat → Bool} {n : Nat} (h : 0 ≤ fst p n) : ∃ k, k < n ∧ fst p n = (k : Int) ∧ p k = true := by
  induction n with
  | zero => unfold fst at h; omega
  | succ n ih =>
    unfold fst at h ⊢
    by_cases h0 : 0 ≤ fst p n
    · rw [if_pos h0] at h ⊢
      obtain ⟨k, h1, h2, h3⟩ := ih h0
      exact ⟨k, by omega, h2, h3⟩
    · rw [if_neg h0] at h ⊢
      by_cases hp : p n = true
      · rw [if_pos hp]; exact ⟨n, by omega, rfl, hp⟩
      · rw [if_neg hp] at h; omega
theorem ba_spec {rk : List (List Int)} (h : 0 ≤ ba rk) : vr rk = true ∧ ∃ k : Nat, k < (rk.getD 0 []).length ∧ ba rk = (k : Int) ∧ ∀ b : Nat, b < (rk.getD 0 []).length → b ≠ k → rk.length < 2 * bt rk k b := by
  by_cases hv : vr rk = true
  · rw [ba_yes hv] at h ⊢
    obtain ⟨k, h1, h2, h3⟩ := fst_spec h
    exact ⟨hv, k, h1, h2, btsB_iff.1 h3⟩
  · rw [Bool.not_eq_true] at hv
    rw [ba_no hv] at h; omega
theorem ba_neg {rk : List (List Int)} (h : ¬ 0 ≤ ba rk) : ba rk = -1 := by
  by_cases hv : vr rk = true
  · rw [ba_yes hv] at h ⊢
    have key : ∀ n, ¬ 0 ≤ fst (btsB rk) n → fst (btsB rk) n = -1 := by
      intro n
      induction n with
      | zero => intro _; rfl
      | succ n ih =>
        intro hn
        unfold fst at hn ⊢
        by_cases h0 : 0 ≤ fst (btsB rk) n
        · rw [if_pos h0] at hn; exact absurd h0 hn
        · rw [if_neg h0] at hn ⊢
          by_cases hp : btsB rk n = true
          · rw [if_pos hp] at hn; omega
          · rw [if_neg hp]
    exact key _ h
  · rw [Bool.not_eq_true] at hv; exact ba_no hv


end Go.Proofs.Ytgmhodmgbhpdaac
