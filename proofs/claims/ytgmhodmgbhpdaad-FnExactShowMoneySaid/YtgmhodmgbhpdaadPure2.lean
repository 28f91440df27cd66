/- Decimal digits in plain numbers. -/
namespace Go.Proofs.Ytgmhodmgbhpdaad
set_option linter.unusedVariables false
/-- the decimal digits, the last one first -/
def rdig (n : Nat) : List Int := if n < 10 then [(n : Int)] else ((n % 10 : Nat) : Int) :: rdig (n / 10)
termination_by n
decreasing_by omega
theorem rdig_small (n : Nat) (h : n < 10) : rdig n = [(n : Int)] := by rw [rdig, if_pos h]
theorem rdig_big (n : Nat) (h : 10 ≤ n) : rdig n = ((n % 10 : Nat) : Int) :: rdig (n / 10) := by rw [rdig, if_neg (by omega)]
theorem rdig_ne (n : Nat) : rdig n ≠ [] := by
  by_cases h : n < 10
  · rw [rdig_small n h]; simp
  · rw [rdig_big n (by omega)]; simp
theorem rdig_len (k : Nat) : ∀ n, n < 10 ^ (k + 1) → (rdig n).length ≤ k + 1 := by
  induction k with
  | zero => intro n h; rw [rdig_small n (by simpa using h)]; simp
  | succ k ih =>
    intro n h
    by_cases hn : n < 10
    · rw [rdig_small n hn]; simp
    · rw [rdig_big n (by omega)]
      have := ih (n / 10) (by rw [Nat.pow_succ] at h; omega)
      simp only [List.length_cons]; omega
theorem rdig_in (n : Nat) : ∀ x ∈ rdig n, 0 ≤ x ∧ x ≤ 9 := by
  induction n using Nat.strongRecOn with
  | _ n ih =>
    intro x hx
    by_cases hn : n < 10
    · rw [rdig_small n hn] at hx; simp at hx; omega
    · rw [rdig_big n (by omega)] at hx
      rcases List.mem_cons.1 hx with rfl | hx
      · omega
      · exact ih (n / 10) (by omega) x hx
/-- a sum -/
def ssum : List Int → Int
  | [] => 0
  | x :: l => x + ssum l
theorem ssum_append (a b : List Int) : ssum (a ++ b) = ssum a + ssum b := by
  induction a with
  | nil => simp [ssum]
  | cons x a ih => simp only [List.cons_append, ssum]; rw [ih]; omega
theorem ssum_snoc (l : List Int) (x : Int) : ssum (l ++ [x]) = ssum l + x := by rw [ssum_append]; simp [ssum]
theorem ssum_reverse (l : List Int) : ssum l.reverse = ssum l := by
  induction l with
  | nil => rfl
  | cons x l ih => rw [List.reverse_cons, ssum_snoc, ih]; simp only [ssum]; omega
theorem ssum_in (l : List Int) (m : Int) (hm : 0 ≤ m) (h : ∀ x ∈ l, 0 ≤ x ∧ x ≤ m) : 0 ≤ ssum l ∧ ssum l ≤ m * l.length := by
  induction l with
  | nil => simp [ssum]
  | cons x l ih =>
    have h1 := ih (fun y hy => h y (by simp [hy]))
    have h2 := h x (by simp)
    simp only [ssum, List.length_cons]
    rw [show m * ((l.length + 1 : Nat) : Int) = m * (l.length : Int) + m by rw [Int.natCast_add, Int.mul_add]; simp]
    omega
/-- the sign of a place -/
def sgn (k : Nat) : Int := if k % 2 = 0 then 1 else -1
theorem sgn_succ (k : Nat) : sgn (k + 1) = -sgn k := by
  unfold sgn
  by_cases h : k % 2 = 0
  · rw [if_pos h, if_neg (by omega)]
  · rw [if_neg h, if_pos (by omega)]; rfl
theorem sgn_in (k : Nat) : sgn k = 1 ∨ sgn k = -1 := by
  unfold sgn; split
  · exact .inl rfl
  · exact .inr rfl
/-- the alternating sum of a list's first numbers -/
def alt (l : List Int) : Nat → Int
  | 0 => 0
  | k + 1 => alt l k + sgn k * l.getD k 0
theorem alt_in (l : List Int) (h : ∀ x ∈ l, 0 ≤ x ∧ x ≤ 9) (k : Nat) (hk : k ≤ l.length) : -9 * (k : Int) ≤ alt l k ∧ alt l k ≤ 9 * k := by
  induction k with
  | zero => simp [alt]
  | succ k ih =>
    have h1 := ih (by omega)
    have h2 := h (l.getD k 0) (by rw [List.getD_eq_getElem?_getD, List.getElem?_eq_getElem (by omega)]; exact List.getElem_mem _)
    simp only [alt]
    rcases sgn_in k with e | e <;> rw [e] <;> omega

theorem ssum_nine (n : Nat) : ssum (rdig n) % 9 = (n : Int) % 9 ∧ 0 ≤ ssum (rdig n) ∧ ssum (rdig n) ≤ n := by
  induction n using Nat.strongRecOn with
  | _ n ih =>
    by_cases h : n < 10
    · rw [rdig_small n h]; simp [ssum]
    · rw [rdig_big n (by omega)]
      have := ih (n / 10) (by omega)
      simp only [ssum]; omega
theorem rdig_ten (n : Nat) (h : 1 ≤ n) : rdig (10 * n) = 0 :: rdig n := by
  rw [rdig_big (10 * n) (by omega), show 10 * n % 10 = 0 by omega, show 10 * n / 10 = n by omega]; rfl
theorem ssum_ten (n : Nat) : ssum (rdig (10 * n)) = ssum (rdig n) := by
  by_cases h : n = 0
  · subst h; rfl
  · rw [rdig_ten n (by omega)]; simp [ssum]
theorem ssum_up (n : Nat) (h : n % 10 ≠ 9) : ssum (rdig (n + 1)) = ssum (rdig n) + 1 := by
  by_cases h1 : n < 9
  · rw [rdig_small n (by omega), rdig_small (n + 1) (by omega)]; simp [ssum]
  · rw [rdig_big n (by omega), rdig_big (n + 1) (by omega), show (n + 1) / 10 = n / 10 by omega]
    simp only [ssum]; omega
theorem alt_cons (x : Int) (l : List Int) (k : Nat) : alt (x :: l) (k + 1) = x - alt l k := by
  induction k with
  | zero => simp [alt, sgn]
  | succ k ih =>
    rw [alt, ih, alt, sgn_succ, List.getD_cons_succ, Int.neg_mul]; omega
/-- the alternating sum of a number -/
def altN (n : Nat) : Int := alt (rdig n) (rdig n).length
theorem altN_small (n : Nat) (h : n < 10) : altN n = n := by unfold altN; rw [rdig_small n h]; simp [alt, sgn]
theorem altN_big (n : Nat) (h : 10 ≤ n) : altN n = ((n % 10 : Nat) : Int) - altN (n / 10) := by
  unfold altN; rw [rdig_big n h, List.length_cons, alt_cons]
theorem altN_eleven (n : Nat) : ((n : Int) - altN n) % 11 = 0 ∧ altN n ≤ n ∧ -(n : Int) ≤ altN n := by
  induction n using Nat.strongRecOn with
  | _ n ih =>
    by_cases h : n < 10
    · rw [altN_small n h]; exact ⟨by simp, by omega, by omega⟩
    · rw [altN_big n (by omega)]
      have := ih (n / 10) (by omega)
      omega
theorem altN_ten (n : Nat) : altN (10 * n) = -altN n := by
  by_cases h : n = 0
  · subst h; rw [altN_small 0 (by omega)]; rfl
  · rw [altN_big (10 * n) (by omega), show 10 * n % 10 = 0 by omega, show 10 * n / 10 = n by omega]; simp
end Go.Proofs.Ytgmhodmgbhpdaad
