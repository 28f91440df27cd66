/- Chapter 2: sums over all sets, members that meet a condition, in plain numbers. -/
import Derived.Test.YtgmhodmgbhpdaacWins
namespace Go.Proofs.Ytgmhodmgbhpdaac
open Go.ChangeShapes Go.WideShapes Go.ChangeAt Go.RowKit Go.Joins Go.Sort
set_option linter.unusedVariables false

/-- the numbers below a bound that meet a condition -/
def filK (p : Nat → Bool) : Nat → List Int
  | 0 => []
  | k + 1 => filK p k ++ if p k then [(k : Int)] else []
theorem filK_yes {p : Nat → Bool} {k : Nat} (h : p k = true) : filK p k ++ [(k : Int)] = filK p (k + 1) := by
  show _ = filK p k ++ _; rw [if_pos h]
theorem filK_no {p : Nat → Bool} {k : Nat} (h : p k = false) : filK p k = filK p (k + 1) := by
  show _ = filK p k ++ _; rw [if_neg (by rw [h]; simp), List.append_nil]
theorem filK_len (p : Nat → Bool) (k : Nat) : (filK p k).length ≤ k := by
  induction k with
  | zero => simp [filK]
  | succ k ih => unfold filK; rw [List.length_append]; split <;> simp <;> omega
theorem filK_mem {p : Nat → Bool} {k : Nat} {x : Int} : x ∈ filK p k ↔ ∃ i : Nat, i < k ∧ p i = true ∧ x = i := by
  induction k with
  | zero => simp [filK]
  | succ k ih =>
    unfold filK
    rw [List.mem_append, ih]
    constructor
    · rintro (⟨i, h1, h2, h3⟩ | h)
      · exact ⟨i, by omega, h2, h3⟩
      · split at h
        · rw [List.mem_singleton] at h; exact ⟨k, by omega, by assumption, h⟩
        · simp at h
    · rintro ⟨i, h1, h2, h3⟩
      by_cases e : i = k
      · right; subst e; rw [if_pos h2, List.mem_singleton]; exact h3
      · exact .inl ⟨i, by omega, h2, h3⟩

/-- sums over all sets below a bound -/
def acc (f : Nat → Nat → Int) (j : Nat) : Nat → Int
  | 0 => 0
  | S + 1 => acc f j S + f S j
def accL (f : Nat → Nat → Int) (n S : Nat) : List Int := (List.range n).map fun j => acc f j S
def accM (f : Nat → Nat → Int) (n S i : Nat) : List Int := (List.range n).map fun j => acc f j S + if j < i then f S j else 0
theorem accL_len (f : Nat → Nat → Int) (n S : Nat) : (accL f n S).length = n := by simp [accL]
theorem accM_len (f : Nat → Nat → Int) (n S i : Nat) : (accM f n S i).length = n := by simp [accM]
theorem accL_at (f : Nat → Nat → Int) (n S j : Nat) (h : j < n) : (accL f n S).getD j 0 = acc f j S := by simp [accL, List.getD_eq_getElem?_getD, h]
theorem accM_at (f : Nat → Nat → Int) (n S i j : Nat) (h : j < n) : (accM f n S i).getD j 0 = acc f j S + if j < i then f S j else 0 := by simp [accM, List.getD_eq_getElem?_getD, h]
theorem getD_ext {a b : List Int} (hl : a.length = b.length) (h : ∀ j, j < a.length → a.getD j 0 = b.getD j 0) : a = b := by
  apply List.ext_getElem hl
  intro i h1 h2
  have := h i h1
  rw [List.getD_eq_getElem?_getD, List.getD_eq_getElem?_getD, List.getElem?_eq_getElem h1, List.getElem?_eq_getElem h2] at this
  simpa using this
theorem accM_zero (f : Nat → Nat → Int) (n S : Nat) : accM f n S 0 = accL f n S := by
  apply getD_ext (by rw [accM_len, accL_len])
  intro j hj; rw [accM_len] at hj
  rw [accM_at _ _ _ _ _ hj, accL_at _ _ _ _ hj, if_neg (by omega)]; omega
theorem accM_full (f : Nat → Nat → Int) (n S : Nat) : accM f n S n = accL f n (S + 1) := by
  apply getD_ext (by rw [accM_len, accL_len])
  intro j hj; rw [accM_len] at hj
  rw [accM_at _ _ _ _ _ hj, accL_at _ _ _ _ hj, if_pos hj]; rfl
theorem set_at (l : List Int) (j i : Nat) (x : Int) (hj : j < l.length) : (l.set j x).getD i 0 = if i = j then x else l.getD i 0 := by
  rw [List.getD_eq_getElem?_getD, List.getD_eq_getElem?_getD, List.getElem?_set]
  by_cases e : j = i
  · subst e; simp [hj]
  · rw [if_neg e, if_neg (Ne.symm e)]
theorem accM_set (f : Nat → Nat → Int) (n S i : Nat) (h : i < n) : (accM f n S i).set i ((accM f n S i).getD i 0 + f S i) = accM f n S (i + 1) := by
  apply getD_ext (by rw [List.length_set, accM_len, accM_len])
  intro j hj; rw [List.length_set, accM_len] at hj
  rw [set_at _ _ _ _ (by rw [accM_len]; exact h), accM_at f n S (i + 1) j hj, accM_at f n S i i h, accM_at f n S i j hj, if_neg (Nat.lt_irrefl i)]
  by_cases e : j = i
  · subst e; rw [if_pos rfl, if_pos (Nat.lt_succ_self _)]; omega
  · rw [if_neg e]
    by_cases h2 : j < i
    · rw [if_pos h2, if_pos (show j < i + 1 by omega)]
    · rw [if_neg h2, if_neg (show ¬ j < i + 1 by omega)]
theorem accM_same (f : Nat → Nat → Int) (n S i : Nat) (h : f S i = 0) : accM f n S i = accM f n S (i + 1) := by
  apply getD_ext (by rw [accM_len, accM_len])
  intro j hj; rw [accM_len] at hj
  rw [accM_at _ _ _ _ _ hj, accM_at _ _ _ _ _ hj]
  by_cases e : j = i
  · subst e; rw [if_neg (by omega), if_pos (by omega), h]
  · by_cases h2 : j < i
    · rw [if_pos h2, if_pos (by omega)]
    · rw [if_neg h2, if_neg (by omega)]
theorem acc_bd (f : Nat → Nat → Int) (m : Int) (hf : ∀ s j, 0 ≤ f s j ∧ f s j ≤ m) (j S : Nat) : 0 ≤ acc f j S ∧ acc f j S ≤ m * S := by
  induction S with
  | zero => simp [acc]
  | succ S ih =>
    have := hf S j
    unfold acc
    rw [Int.natCast_add, Int.mul_add]; omega

/-- a set, with one member more -/
theorem wtK_add (l : List Int) (s i : Nat) (h : s.testBit i = false) (k : Nat) : wtK l (s + 2 ^ i) k = wtK l s k + if i < k then l.getD i 0 else 0 := by
  induction k with
  | zero => simp [wtK]
  | succ k ih =>
    unfold wtK
    rw [ih, Nat.add_comm s, add_bit i s k h]
    by_cases e : k = i
    · subst e; rw [h]; simp
    · rw [decide_eq_false e, Bool.false_or]
      by_cases h2 : i < k
      · rw [if_pos h2, if_pos (show i < k + 1 by omega)]; omega
      · rw [if_neg h2, if_neg (show ¬ i < k + 1 by omega)]; omega
theorem wt_add (l : List Int) (s i : Nat) (h : s.testBit i = false) (hi : i < l.length) : wt l (s + 2 ^ i) = wt l s + l.getD i 0 := by
  unfold wt; rw [wtK_add l s i h, if_pos hi]
/-- a set does not win, and wins with one member more -/
def dec (l : List Int) (need : Int) (s i : Nat) : Bool := !s.testBit i && (!winB l need s && winB l need (s + 2 ^ i))
theorem dec_iff (l : List Int) (need : Int) (s i : Nat) (hi : i < l.length) : dec l need s i = (!s.testBit i && (decide (0 < need - wt l s) && decide (need - wt l s ≤ l.getD i 0))) := by
  unfold dec winB
  by_cases h : s.testBit i = true
  · rw [h]; rfl
  · rw [Bool.not_eq_true] at h
    rw [wt_add l s i h hi, h, Bool.eq_iff_iff]
    simp only [Bool.and_eq_true, Bool.not_eq_true', decide_eq_false_iff_not, decide_eq_true_eq, Bool.not_false]
    constructor <;> (rintro ⟨h1, h2, h3⟩; exact ⟨h1, by omega, by omega⟩)
def sb (l : List Int) (need : Int) : Bool := vb l need && decide (l.length ≤ 8)
theorem sb_iff {l : List Int} {need : Int} : sb l need = true ↔ vb l need = true ∧ l.length ≤ 8 := by unfold sb; rw [Bool.and_eq_true, decide_eq_true_eq]
theorem decide_len {n : Nat} (h : n ≤ 8) : decide ((n : Int) ≤ 8) = true := decide_eq_true (by omega)
theorem decide_len' {n : Nat} (h : ¬ n ≤ 8) : decide ((n : Int) ≤ 8) = false := decide_eq_false (by omega)
theorem pow8 {n : Nat} (h : n ≤ 8) : 2 ^ n ≤ 256 := pow_le (b := 8) h

end Go.Proofs.Ytgmhodmgbhpdaac
