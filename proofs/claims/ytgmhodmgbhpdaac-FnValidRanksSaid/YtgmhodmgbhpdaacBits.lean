/- Sets of numbers as sums of powers of two, in plain numbers. -/
import Derived.Test.YtgmhodmgbhpdaacExt
import Derived.Laws.BitsAllLaws
import Derived.Laws.BitsLemmas
namespace Go.Proofs.Ytgmhodmgbhpdaac
open Go.ChangeShapes Go.WideShapes Go.ChangeAt Go.RowKit Go.Joins Go.Sort
set_option linter.unusedVariables false

theorem ofInt_i64 (a : Nat) (ha : a < 9223372036854775808) : (BitVec.ofInt 64 (a : Int)).toNat = a := by
  rw [BitVec.ofInt_natCast, BitVec.toNat_ofNat]; exact Nat.mod_eq_of_lt (by omega)
theorem and_i64 (a b : Nat) (ha : a < 9223372036854775808) (hb : b < 9223372036854775808) : bits .and .i64 (a : Int) (b : Int) = ((a &&& b : Nat) : Int) := by
  have hx : a &&& b < 2 ^ 63 := Nat.and_lt_two_pow _ (by omega)
  show IntKind.i64.wrap ((BitVec.ofInt 64 (a : Int) &&& BitVec.ofInt 64 (b : Int)).toNat : Int) = _
  rw [BitVec.toNat_and, ofInt_i64 a ha, ofInt_i64 b hb, IntKind.wrap_i64]
  omega
theorem bit_and (s k : Nat) (hs : s ≤ 1000000) : (bits .and .i64 ((s : Int) / 2 ^ k) 1 == 1) = s.testBit k := by
  have h1 : ((s : Int) / 2 ^ k) = ((s / 2 ^ k : Nat) : Int) := by rw [Int.natCast_ediv]; norm_cast
  have h2 : s / 2 ^ k ≤ s := Nat.div_le_self _ _
  rw [h1, show (1 : Int) = ((1 : Nat) : Int) from rfl, and_i64 _ _ (by omega) (by omega), Nat.and_one_is_mod, Nat.testBit_eq_decide_div_mod_eq, Bool.eq_iff_iff]
  simp only [beq_iff_eq, decide_eq_true_eq]; omega

theorem add_bit (a n k : Nat) (h : n.testBit a = false) : (2 ^ a + n).testBit k = (decide (k = a) || n.testBit k) := by
  rw [Nat.testBit_eq_decide_div_mod_eq] at h
  rw [Nat.testBit_eq_decide_div_mod_eq, Nat.testBit_eq_decide_div_mod_eq, Bool.eq_iff_iff]
  simp only [decide_eq_true_eq, Bool.or_eq_true, decide_eq_false_iff_not] at h ⊢
  have hp : 0 < 2 ^ k := Nat.two_pow_pos k
  rcases Nat.lt_trichotomy k a with hk | hk | hk
  · have e : 2 ^ a = 2 * 2 ^ (a - k - 1) * 2 ^ k := by
      rw [← Nat.pow_succ', ← Nat.pow_add]; congr 1; omega
    rw [e, Nat.add_comm, Nat.add_mul_div_right _ _ hp]
    omega
  · subst hk
    rw [Nat.add_comm, Nat.add_div_right _ hp]
    omega
  · have e : 2 ^ k = 2 ^ (a + 1) * 2 ^ (k - a - 1) := by rw [← Nat.pow_add]; congr 1; omega
    have e2 : (2 ^ a + n) / 2 ^ (a + 1) = n / 2 ^ (a + 1) := by
      rw [Nat.pow_succ, ← Nat.div_div_eq_div_mul, ← Nat.div_div_eq_div_mul, Nat.add_comm, Nat.add_div_right _ (Nat.two_pow_pos a)]
      omega
    rw [e, ← Nat.div_div_eq_div_mul, ← Nat.div_div_eq_div_mul, e2]
    omega

theorem pow_cast (m : Nat) : ((2 ^ m : Nat) : Int) = (2 : Int) ^ m := by push_cast; rfl
theorem pow_bd {m : Nat} (h : m ≤ 12) : (0 : Int) ≤ 2 ^ m ∧ (2 : Int) ^ m ≤ 4096 := by
  rw [← pow_cast]; exact ⟨Int.natCast_nonneg _, Int.ofNat_le.2 (Nat.pow_le_pow_right (n := 2) (by omega) h)⟩
def pw (k : Nat) : Nat := 2 ^ k
def setN (l : List Int) : Nat := l.foldr (fun x s => 2 ^ x.toNat + s) 0
theorem setN_cons (a : Int) (l : List Int) : setN (a :: l) = 2 ^ a.toNat + setN l := rfl
theorem setN_append (a b : List Int) : setN (a ++ b) = setN a + setN b := by
  induction a with
  | nil => simp [setN]
  | cons x t ih => rw [List.cons_append, setN_cons, setN_cons, ih]; omega
theorem setN_bit (l : List Int) (h : ∀ x ∈ l, 0 ≤ x) (hn : l.Nodup) : ∀ k : Nat, (setN l).testBit k = decide ((k : Int) ∈ l) := by
  induction l with
  | nil => intro k; simp [setN]
  | cons a t ih =>
    have ha := h a (List.mem_cons_self ..)
    obtain ⟨m, rfl⟩ := Int.eq_ofNat_of_zero_le ha
    have hn' := List.nodup_cons.1 hn
    have ih' := ih (fun x hx => h x (List.mem_cons_of_mem _ hx)) hn'.2
    have hm : (setN t).testBit m = false := by rw [ih' m]; exact decide_eq_false hn'.1
    intro k
    rw [setN_cons, Int.toNat_natCast, add_bit _ _ _ hm, ih' k, Bool.eq_iff_iff]
    simp only [Bool.or_eq_true, decide_eq_true_eq, List.mem_cons]; exact or_congr (by omega) Iff.rfl

/-- numbers that are different and below n -/
def vmB (l : List Int) (n : Int) : Bool := decide ((∀ x ∈ l, 0 ≤ x ∧ x ≤ n - 1) ∧ l.Nodup)
theorem vmB_iff {l : List Int} {n : Int} : vmB l n = true ↔ (∀ x ∈ l, 0 ≤ x ∧ x ≤ n - 1) ∧ l.Nodup := by unfold vmB; simp
theorem vmB_no {l : List Int} {n : Int} (h : ¬ ((∀ x ∈ l, 0 ≤ x ∧ x ≤ n - 1) ∧ l.Nodup)) : vmB l n = false := decide_eq_false h
theorem setN_lt {l : List Int} {n : Nat} (h : vmB l n = true) : setN l < 2 ^ n := by
  obtain ⟨h1, h2⟩ := vmB_iff.1 h
  apply Nat.lt_pow_two_of_testBit
  intro i hi
  rw [setN_bit l (fun x hx => (h1 x hx).1) h2]
  apply decide_eq_false
  intro hm
  have := (h1 _ hm).2
  omega
theorem pow_le {a b : Nat} (h : a ≤ b) : 2 ^ a ≤ 2 ^ b := Nat.pow_le_pow_right (by omega) h
theorem pow12 {n : Nat} (h : n ≤ 12) : 2 ^ n ≤ 4096 := pow_le (b := 12) h
theorem getD_take (l : List Int) (k i : Nat) (h : i < k) : (l.take k).getD i 0 = l.getD i 0 := by
  rw [List.getD_eq_getElem?_getD, List.getD_eq_getElem?_getD, List.getElem?_take_of_lt h]
theorem mem_getD {l : List Int} {x : Int} (h : x ∈ l) : ∃ i, i < l.length ∧ l.getD i 0 = x := by
  obtain ⟨i, hi, e⟩ := List.mem_iff_getElem.1 h
  exact ⟨i, hi, by rw [List.getD_eq_getElem?_getD, List.getElem?_eq_getElem hi]; exact e⟩
/-- one number more -/
theorem take_snoc (l : List Int) (k : Nat) (h : k < l.length) : l.take (k + 1) = l.take k ++ [l.getD k 0] := by
  rw [List.take_succ_eq_append_getElem h, List.getD_eq_getElem?_getD, List.getElem?_eq_getElem h]; rfl
theorem vm_step {l : List Int} {k : Nat} {n : Int} (hk : k < l.length) (h : vmB (l.take k) n = true) (h0 : 0 ≤ l.getD k 0) (h1 : l.getD k 0 ≤ n - 1) (hm : l.getD k 0 ∉ l.take k) : vmB (l.take (k + 1)) n = true := by
  obtain ⟨a, b⟩ := vmB_iff.1 h
  rw [take_snoc l k hk]
  refine vmB_iff.2 ⟨fun x hx => ?_, ?_⟩
  · rw [List.mem_append, List.mem_singleton] at hx
    rcases hx with hx | rfl
    · exact a x hx
    · exact ⟨h0, h1⟩
  · rw [List.nodup_append]
    refine ⟨b, by simp, fun x hx y hy => ?_⟩
    rw [List.mem_singleton] at hy; subst hy
    intro e; subst e; exact hm hx
theorem vm_out {l : List Int} {k : Nat} {n : Int} (hk : k < l.length) (h : ¬ (0 ≤ l.getD k 0 ∧ l.getD k 0 ≤ n - 1)) : vmB l n = false :=
  vmB_no fun a => h (a.1 _ (by rw [List.getD_eq_getElem?_getD, List.getElem?_eq_getElem hk]; exact List.getElem_mem _))
theorem vm_twice {l : List Int} {k : Nat} {n : Int} (hk : k < l.length) (h : l.getD k 0 ∈ l.take k) : vmB l n = false := by
  refine vmB_no fun a => ?_
  have h2 : (l.take (k + 1)).Nodup := List.Sublist.nodup (List.take_sublist _ _) a.2
  rw [take_snoc l k hk, List.nodup_append] at h2
  exact h2.2.2 _ h _ (by simp) rfl
theorem setN_take (l : List Int) (k : Nat) (hk : k < l.length) : setN (l.take (k + 1)) = setN (l.take k) + 2 ^ (l.getD k 0).toNat := by
  rw [take_snoc l k hk, setN_append]; simp [setN]

/-- the set of numbers, -1 for others -/
def setR (l : List Int) (n : Int) : Int := if vmB l n = true then (setN l : Int) else -1
theorem setR_yes {l : List Int} {n : Int} (h : vmB l n = true) : setR l n = setN l := if_pos h
theorem setR_no {l : List Int} {n : Int} (h : vmB l n = false) : setR l n = -1 := if_neg (by rw [h]; simp)

/-- the votes of a set -/
def wtK (l : List Int) (s : Nat) : Nat → Int
  | 0 => 0
  | k + 1 => wtK l s k + if s.testBit k then l.getD k 0 else 0
def wt (l : List Int) (s : Nat) : Int := wtK l s l.length
theorem wtK_bd (l : List Int) (s : Nat) (h : ∀ x ∈ l, 0 ≤ x ∧ x ≤ 100) (k : Nat) (hk : k ≤ l.length) : 0 ≤ wtK l s k ∧ wtK l s k ≤ 100 * k := by
  induction k with
  | zero => exact ⟨Int.le_refl _, by simp [wtK]⟩
  | succ k ih =>
    have h1 := ih (by omega)
    have h2 := h _ (show l.getD k 0 ∈ l by rw [List.getD_eq_getElem?_getD, List.getElem?_eq_getElem (by omega)]; exact List.getElem_mem _)
    unfold wtK
    split <;> omega
theorem wt_bd (l : List Int) (s : Nat) (h : ∀ x ∈ l, 0 ≤ x ∧ x ≤ 100) : 0 ≤ wt l s ∧ wt l s ≤ 100 * l.length := wtK_bd l s h _ (Nat.le_refl _)
end Go.Proofs.Ytgmhodmgbhpdaac
