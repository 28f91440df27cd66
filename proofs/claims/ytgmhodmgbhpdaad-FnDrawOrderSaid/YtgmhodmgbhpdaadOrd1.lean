/- Chapter 3: orders, pots and turns: contracts of the program and of the model. -/
import Derived.Test.YtgmhodmgbhpdaadOrd0
import Derived.Test.YtgmhodmgbhpdaadArr
import Derived.Test.YtgmhodmgbhpdaadApp
namespace Go.Proofs.Ytgmhodmgbhpdaad
open Go.ChangeShapes Go.WideShapes Go.ChangeAt Go.RowKit Go.Joins Go.Sort
set_option linter.unusedVariables false

/-- an order of members -/
def vo (l : List Int) : Bool := decide (1 ≤ l.length ∧ l.length ≤ 12) && vmB l l.length
theorem vo_iff {l : List Int} : vo l = true ↔ (1 ≤ l.length ∧ l.length ≤ 12) ∧ vmB l l.length = true := by unfold vo; rw [Bool.and_eq_true, decide_eq_true_eq]
theorem vo_no {l : List Int} (h : ¬ ((1 ≤ l.length ∧ l.length ≤ 12) ∧ vmB l l.length = true)) : vo l = false := by
  rw [← Bool.not_eq_true, vo_iff]; exact h
/-- what members pay together -/
def potOk (m p : Int) : Prop := (1 ≤ m ∧ m ≤ 12) ∧ 0 ≤ p ∧ p ≤ 10000
instance (m p : Int) : Decidable (potOk m p) := by unfold potOk; infer_instance
def pot (m p : Int) : Int := if potOk m p then m * p else -1
theorem pot_yes {m p : Int} (h : potOk m p) : pot m p = m * p := if_pos h
theorem pot_no {m p : Int} (h : ¬ potOk m p) : pot m p = -1 := if_neg h
theorem prod_bd {m p : Int} {a b : Int} (h0 : 0 ≤ m) (h1 : m ≤ a) (h2 : 0 ≤ p) (h3 : p ≤ b) : 0 ≤ m * p ∧ m * p ≤ a * b :=
  ⟨Int.mul_nonneg h0 h2, Int.mul_le_mul h1 h3 h2 (Int.le_trans h0 h1)⟩
theorem pot_bd {m p : Int} (h : potOk m p) : 0 ≤ m * p ∧ m * p ≤ 120000 := prod_bd (by have := h.1.1; omega) h.1.2 h.2.1 h.2.2
/-- the turn of a member -/
def tno (l : List Int) (x : Int) : Int := if vo l = true then plc l x else -1
theorem tno_yes {l : List Int} {x : Int} (h : vo l = true) : tno l x = plc l x := if_pos h
theorem tno_no {l : List Int} {x : Int} (h : vo l = false) : tno l x = -1 := if_neg (by rw [h]; simp)

set_option maxHeartbeats 400000 in
theorem implVO (sa : Option Addr) (cap : Nat) (l : List Int) (w : World) (h : Lst w sa l) (hl : l.length ≤ 2000000) (hcap : l.length ≤ cap) :
    Calls Try.prog 25 #[.slice sa l.length cap] w (Same (.bool (vo l)) w) := by
  by_cases h1 : inr l.length 1 12 = true
  · obtain ⟨h1a, h1b⟩ := inr_iff.1 h1
    by_cases hv : vmB l l.length = true
    · have hd : (setR l l.length == fullI l.length) = true := by rw [beq_iff_eq]; exact (setR_full _ _).2 ⟨rfl, hv⟩
      have HF := hide (vo_iff.2 ⟨⟨by omega, by omega⟩, hv⟩)
      go_enter Try.func25, Try.ntmps25
      go_wp2_with fail; refine (Same.eqB (implInr _ _ _ _) h1).mono ?_; rintro e w' ⟨rfl, rfl⟩
      go_wp2_with fail; refine (implSetOf sa cap l l.length _ h hl (by omega)).mono ?_; rintro e w' ⟨rfl, rfl⟩
      go_wp2_with fail; refine (implFullSet l.length _ (by omega)).mono ?_; rintro e w' ⟨rfl, rfl⟩
      go_wp2
      go_ret
      exact Same.bool HF.out.symm
    · have hd : (setR l l.length == fullI l.length) = false := by rw [beq_eq_false_iff_ne]; exact fun h => hv ((setR_full _ _).1 h).2
      have HF := hide (vo_no (l := l) fun h => hv h.2)
      go_enter Try.func25, Try.ntmps25
      go_wp2_with fail; refine (Same.eqB (implInr _ _ _ _) h1).mono ?_; rintro e w' ⟨rfl, rfl⟩
      go_wp2_with fail; refine (implSetOf sa cap l l.length _ h hl (by omega)).mono ?_; rintro e w' ⟨rfl, rfl⟩
      go_wp2_with fail; refine (implFullSet l.length _ (by omega)).mono ?_; rintro e w' ⟨rfl, rfl⟩
      go_wp2
      go_ret
      exact Same.bool HF.out.symm
  · have HF := hide (vo_no (l := l) fun h => h1 (inr_iff.2 ⟨by have := h.1.1; omega, by have := h.1.2; omega⟩))
    rw [Bool.not_eq_true] at h1
    go_enter Try.func25, Try.ntmps25
    go_wp2_with fail; refine (Same.eqB (implInr _ _ _ _) h1).mono ?_; rintro e w' ⟨rfl, rfl⟩
    go_wp2
    go_ret
    exact Same.bool HF.out.symm
end Go.Proofs.Ytgmhodmgbhpdaad
