/- Chapter 3: commitments: contracts of the program and of the model. -/
import Derived.Test.YtgmhodmgbhpdaadBody1
namespace Go.Proofs.Ytgmhodmgbhpdaad
open Go.ChangeShapes Go.WideShapes Go.ChangeAt Go.RowKit Go.Joins Go.Sort
set_option linter.unusedVariables false

def cOk (v s : Int) : Prop := (0 ≤ v ∧ v ≤ 50000) ∧ 0 ≤ s ∧ s ≤ 9999
instance (v s : Int) : Decidable (cOk v s) := by unfold cOk; infer_instance
/-- the commitment to a value -/
def cmt (v s : Int) : Int := (v * 7919 + s * s + s) % 99991
def cm (v s : Int) : Int := if cOk v s then cmt v s else -1
theorem cm_yes {v s : Int} (h : cOk v s) : cm v s = cmt v s := if_pos h
theorem cm_no {v s : Int} (h : ¬ cOk v s) : cm v s = -1 := if_neg h
theorem sq_bd {s : Int} (h0 : 0 ≤ s) (h1 : s ≤ 9999) : 0 ≤ s * s ∧ s * s ≤ 99980001 :=
  ⟨Int.mul_nonneg h0 h0, Int.mul_le_mul h1 h1 h0 (by omega)⟩
theorem cmt_bd {v s : Int} (h : cOk v s) : 0 ≤ cmt v s ∧ cmt v s < 99991 := by
  unfold cmt; omega
set_option maxHeartbeats 400000 in
theorem specCommit (v s : Int) (w : World) (h : cOk v s) : Calls Try.prog 36 #[.int .i64 v, .int .i64 s] w (Same (.int .i64 (cmt v s)) w) := by
  obtain ⟨⟨v0, v1⟩, s0, s1⟩ := h
  have hb := sq_bd s0 s1
  have HF := hide (show (v * 7919 + s * s + s) % 99991 = cmt v s from rfl)
  go_enter Try.func36, Try.ntmps36
  go_wp2
  go_ret
  exact Same.int HF.out
set_option maxHeartbeats 400000 in
theorem implCommit (v s : Int) (w : World) : Calls Try.prog 16 #[.int .i64 v, .int .i64 s] w (Same (.int .i64 (cm v s)) w) := by
  by_cases h1 : inr v 0 50000 = true
  · by_cases h2 : inr s 0 9999 = true
    · have hok : cOk v s := ⟨inr_iff.1 h1, inr_iff.1 h2⟩
      have HF := hide (show (v * 7919 + s * s + s) % 99991 = cm v s from (cm_yes hok).symm)
      obtain ⟨⟨v0, v1⟩, s0, s1⟩ := hok
      have hb := sq_bd s0 s1
      go_enter Try.func16, Try.ntmps16
      go_wp2_with fail; refine (Same.eqB (implInr _ _ _ _) h1).mono ?_; rintro e w' ⟨rfl, rfl⟩
      go_wp2_with fail; refine (Same.eqB (implInr _ _ _ _) h2).mono ?_; rintro e w' ⟨rfl, rfl⟩
      go_wp2
      go_ret
      exact Same.int HF.out
    · have HF := hide (cm_no (v := v) (s := s) fun h => h2 (inr_iff.2 h.2))
      rw [Bool.not_eq_true] at h2
      go_enter Try.func16, Try.ntmps16
      go_wp2_with fail; refine (Same.eqB (implInr _ _ _ _) h1).mono ?_; rintro e w' ⟨rfl, rfl⟩
      go_wp2_with fail; refine (Same.eqB (implInr _ _ _ _) h2).mono ?_; rintro e w' ⟨rfl, rfl⟩
      go_wp2
      go_ret
      exact Same.int HF.out.symm
  · have HF := hide (cm_no (v := v) (s := s) fun h => h1 (inr_iff.2 h.1))
    rw [Bool.not_eq_true] at h1
    go_enter Try.func16, Try.ntmps16
    go_wp2_with fail; refine (Same.eqB (implInr _ _ _ _) h1).mono ?_; rintro e w' ⟨rfl, rfl⟩
    go_wp2
    go_ret
    exact Same.int HF.out.symm
end Go.Proofs.Ytgmhodmgbhpdaad
