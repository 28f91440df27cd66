/- Rounding, compound interest and payments in plain numbers. -/
namespace Go.Proofs.Ytjdfdikifiljjab
theorem mod_two_mul (x q : Int) (hq : 1 ≤ q) : x % (2 * q) = x % q + q * (x / q % 2) := by
  have h1 := Int.emod_add_mul_ediv x q
  have h2 := Int.emod_add_mul_ediv (x / q) 2
  have h3 := Int.emod_nonneg x (b := q) (by omega)
  have h4 := Int.emod_lt_of_pos x (b := q) (by omega)
  have h5 : x / q % 2 = 0 ∨ x / q % 2 = 1 := by omega
  have e : x = (x % q + q * (x / q % 2)) + (2 * q) * (x / q / 2) := by
    calc x = x % q + q * (x / q) := h1.symm
      _ = x % q + q * (x / q % 2 + 2 * (x / q / 2)) := by rw [h2]
      _ = _ := by rw [Int.mul_add, ← Int.add_assoc, ← Int.mul_assoc, Int.mul_comm q 2]
  generalize x / q % 2 = b at *
  generalize x / q / 2 = j at *
  generalize x % q = r at *
  rw [e, Int.add_mul_emod_self_left]
  rcases h5 with rfl | rfl
  · exact Int.emod_eq_of_lt (by simp; omega) (by simp; omega)
  · exact Int.emod_eq_of_lt (by simp; omega) (by simp; omega)

theorem half_iff (x q : Int) (hq : 1 ≤ q) : x % (2 * q) = q ↔ (x % q = 0 ∧ x / q % 2 = 1) := by
  have h := mod_two_mul x q hq
  have h3 := Int.emod_nonneg x (b := q) (by omega)
  have h4 := Int.emod_lt_of_pos x (b := q) (by omega)
  have h5 : x / q % 2 = 0 ∨ x / q % 2 = 1 := by omega
  rw [h]
  rcases h5 with h5 | h5 <;> rw [h5] <;> simp <;> omega

/-- the nearest number, halves up -/
def rnear (n p q : Int) : Int := (2 * n * p + q) / (2 * q)
/-- the nearest number, halves to the even one -/
def reven (n p q : Int) : Int := if 2 * n * p % (2 * q) = q ∧ rnear n p q % 2 = 1 then rnear n p q - 1 else rnear n p q

theorem prod_bd (n p q : Int) (hn : 0 ≤ n) (hp : 0 ≤ p) (hpq : p ≤ q) : 0 ≤ n * p ∧ n * p ≤ n * q :=
  ⟨Int.mul_nonneg hn hp, Int.mul_le_mul_of_nonneg_left hpq hn⟩

theorem rnear_bd (n p q : Int) (hn : 0 ≤ n) (hp : 0 ≤ p) (hpq : p ≤ q) (hq : 1 ≤ q) : 0 ≤ rnear n p q ∧ rnear n p q ≤ n := by
  obtain ⟨h1, h2⟩ := prod_bd n p q hn hp hpq
  have e : 2 * n * p = 2 * (n * p) := Int.mul_assoc 2 n p
  unfold rnear
  rw [e]
  refine ⟨Int.ediv_nonneg (by omega) (by omega), ?_⟩
  have h3 : (2 * (n * p) + q) / (2 * q) < n + 1 := by
    apply Int.ediv_lt_of_lt_mul (by omega)
    have : (n + 1) * (2 * q) = 2 * (n * q) + 2 * q := by rw [Int.add_mul, Int.one_mul, Int.mul_left_comm]
    omega
  omega

theorem reven_bd (n p q : Int) (hn : 0 ≤ n) (hp : 0 ≤ p) (hpq : p ≤ q) (hq : 1 ≤ q) : 0 ≤ reven n p q ∧ reven n p q ≤ n := by
  have h := rnear_bd n p q hn hp hpq hq
  unfold reven
  split <;> omega

theorem rnear_mono (n m p q : Int) (hnm : n ≤ m) (hp : 0 ≤ p) (hq : 1 ≤ q) : rnear n p q ≤ rnear m p q := by
  unfold rnear
  apply Int.ediv_le_ediv (by omega)
  have : n * p ≤ m * p := Int.mul_le_mul_of_nonneg_right hnm hp
  rw [Int.mul_assoc, Int.mul_assoc]; omega

theorem reven_mono (n m p q : Int) (hnm : n ≤ m) (hp : 0 ≤ p) (hq : 1 ≤ q) : reven n p q ≤ reven m p q := by
  have h1 := rnear_mono n m p q hnm hp hq
  by_cases hm : 2 * m * p % (2 * q) = q ∧ rnear m p q % 2 = 1
  · by_cases hlt : rnear n p q < rnear m p q
    · unfold reven; rw [if_pos hm]; split <;> omega
    · have he : rnear n p q = rnear m p q := by omega
      have hx : n * p ≤ m * p := Int.mul_le_mul_of_nonneg_right hnm hp
      have k1 := Int.emod_add_mul_ediv (2 * m * p + q) (2 * q)
      have k2 := Int.emod_add_mul_ediv (2 * n * p + q) (2 * q)
      have k3 : (2 * m * p + q) % (2 * q) = 0 := by
        rw [Int.add_emod, hm.1, Int.emod_eq_of_lt (a := q) (by omega) (by omega), show q + q = 2 * q by omega, Int.emod_self]
      have k4 := Int.emod_nonneg (2 * n * p + q) (b := 2 * q) (by omega)
      have e1 : 2 * n * p = 2 * (n * p) := Int.mul_assoc 2 n p
      have e2 : 2 * m * p = 2 * (m * p) := Int.mul_assoc 2 m p
      have k5 : (2 * n * p + q) / (2 * q) = (2 * m * p + q) / (2 * q) := he
      rw [k5] at k2
      have k6 : 2 * n * p = 2 * m * p := by omega
      unfold reven
      rw [k6, he, if_pos hm]; exact Int.le_refl _
  · unfold reven; rw [if_neg hm]; split <;> omega

/-- the model's own way to tell a half -/
theorem reven_of_spec (n p q : Int) (hq : 1 ≤ q) :
    (if 2 * n * p % q = 0 ∧ 2 * n * p / q % 2 = 1 ∧ rnear n p q % 2 = 1 then rnear n p q - 1 else rnear n p q) = reven n p q := by
  unfold reven
  have h := half_iff (2 * n * p) q hq
  by_cases hc : 2 * n * p % (2 * q) = q ∧ rnear n p q % 2 = 1
  · rw [if_pos hc, if_pos ⟨(h.1 hc.1).1, (h.1 hc.1).2, hc.2⟩]
  · rw [if_neg hc, if_neg]
    rintro ⟨a, b, c⟩
    exact hc ⟨h.2 ⟨a, b⟩, c⟩

theorem reven_zero (p q : Int) (hq : 1 ≤ q) : reven 0 p q = 0 := by
  have h : rnear 0 p q = 0 := by
    unfold rnear; simp; exact Int.ediv_eq_zero_of_lt (by omega) (by omega)
  unfold reven; rw [h]; simp
/-- what is owed a period later -/
def onext (p q pay n : Int) : Int := max 0 (n + reven n p q - pay)
theorem onext_nn (p q pay n : Int) : 0 ≤ onext p q pay n := by unfold onext; omega
theorem onext_mono (p q pay n m : Int) (hp : 0 ≤ p) (hq : 1 ≤ q) (h : n ≤ m) : onext p q pay n ≤ onext p q pay m := by
  have := reven_mono n m p q h hp hq
  unfold onext; omega
theorem onext_pay (p q a b n : Int) (h : a ≤ b) : onext p q b n ≤ onext p q a n := by unfold onext; omega
/-- what is owed after k periods -/
def oafter (p q pay : Int) : Nat → Int → Int
  | 0, n => n
  | k + 1, n => oafter p q pay k (onext p q pay n)
theorem oafter_nn (p q pay : Int) (k : Nat) : ∀ n, 0 ≤ n → 0 ≤ oafter p q pay k n := by
  induction k with
  | zero => intro n h; exact h
  | succ k ih => intro n _; exact ih _ (onext_nn _ _ _ _)
theorem oafter_zero (p q pay : Int) (hq : 1 ≤ q) (hpay : 0 ≤ pay) (k : Nat) : oafter p q pay k 0 = 0 := by
  induction k with
  | zero => rfl
  | succ k ih =>
    have h : onext p q pay 0 = 0 := by unfold onext; rw [reven_zero p q hq]; omega
    show oafter p q pay k (onext p q pay 0) = 0
    rw [h, ih]
theorem oafter_mono (p q a b : Int) (hp : 0 ≤ p) (hq : 1 ≤ q) (hab : a ≤ b) (k : Nat) : ∀ n m, n ≤ m → oafter p q b k n ≤ oafter p q a k m := by
  induction k with
  | zero => intro n m h; exact h
  | succ k ih =>
    intro n m h
    exact ih _ _ (Int.le_trans (onext_mono p q b n m hp hq h) (onext_pay p q a b m hab))
theorem oafter_stuck (p q pay n : Int) (hp : 0 ≤ p) (hq : 1 ≤ q) (h : n ≤ onext p q pay n) (k : Nat) : n ≤ oafter p q pay k n := by
  induction k with
  | zero => exact Int.le_refl _
  | succ k ih => exact Int.le_trans ih (oafter_mono p q pay pay hp hq (Int.le_refl _) k _ _ h)

/-- what is owed after each payment, up to the one after which nothing is, or which is too great -/
def bal (p q pay : Int) : Nat → Int → List Int
  | 0, _ => []
  | k + 1, n => if 0 < n ∧ n ≤ 1000000 then onext p q pay n :: bal p q pay k (onext p q pay n) else []
theorem bal_len (p q pay : Int) (k : Nat) : ∀ n, (bal p q pay k n).length ≤ k := by
  induction k with
  | zero => intro n; simp [bal]
  | succ k ih => intro n; simp only [bal]; split <;> simp; exact ih _
theorem onext_le (p q pay n : Int) (hn : 0 ≤ n) (hpay : 0 ≤ pay) (hp : 0 ≤ p) (hpq : p ≤ q) (hq : 1 ≤ q) : onext p q pay n ≤ 2 * n := by
  have := reven_bd n p q hn hp hpq hq
  unfold onext; omega
theorem bal_nn (p q pay : Int) (k : Nat) : ∀ n x, x ∈ bal p q pay k n → 0 ≤ x := by
  induction k with
  | zero => intro n x h; simp [bal] at h
  | succ k ih =>
    intro n x h
    simp only [bal] at h
    split at h
    · rcases List.mem_cons.1 h with rfl | h
      · exact onext_nn _ _ _ _
      · exact ih _ _ h
    · simp at h
theorem bal_stop (p q pay n : Int) (k : Nat) (h : ¬ (0 < n ∧ n ≤ 1000000)) : bal p q pay k n = [] := by
  cases k with
  | zero => rfl
  | succ k => simp only [bal]; rw [if_neg h]

/-- the model's way to tell whether a loan is paid back -/
def paidS (p q pay : Int) : Nat → Int → Bool
  | 0, n => decide (n ≤ 0)
  | k + 1, n => if 0 < n then (if 2000000 < n + reven n p q - pay then false else paidS p q pay k (n + reven n p q - pay)) else decide (n ≤ 0)
theorem paidS_neg (p q pay : Int) (k : Nat) (n : Int) (h : n ≤ 0) : paidS p q pay k n = true := by
  cases k with
  | zero => simp [paidS, h]
  | succ k => simp only [paidS]; rw [if_neg (by omega)]; simp [h]
theorem paidS_iff (p q pay : Int) (hp : 0 ≤ p) (hq : 1 ≤ q) (hpay : 0 ≤ pay) (k : Nat) : ∀ n, 0 ≤ n → n ≤ 2000000 → (paidS p q pay k n = true ↔ oafter p q pay k n = 0) := by
  induction k with
  | zero => intro n h _; simp [paidS, oafter]; omega
  | succ k ih =>
    intro n h h2
    by_cases h0 : 0 < n
    · simp only [paidS]; rw [if_pos h0]
      by_cases hb : 2000000 < n + reven n p q - pay
      · rw [if_pos hb]
        have hs : n ≤ onext p q pay n := by unfold onext; omega
        have := oafter_stuck p q pay n hp hq hs (k + 1)
        simp; omega
      · rw [if_neg hb]
        by_cases hz : n + reven n p q - pay ≤ 0
        · have : onext p q pay n = 0 := by unfold onext; omega
          rw [paidS_neg _ _ _ _ _ hz, oafter, this, oafter_zero p q pay hq hpay]; simp
        · have e : onext p q pay n = n + reven n p q - pay := by unfold onext; omega
          rw [oafter, e]
          exact ih _ (by omega) (by omega)
    · have : n = 0 := by omega
      subst this
      rw [paidS_neg _ _ _ _ _ (Int.le_refl 0), oafter_zero p q pay hq hpay]; simp

/-- the program's way -/
def paidI (p q pay : Int) : Nat → Int → Bool
  | 0, n => decide (n = 0)
  | k + 1, n => if 0 < n then (if n ≤ onext p q pay n then false else paidI p q pay k (onext p q pay n)) else decide (n = 0)
theorem paidI_iff (p q pay : Int) (hp : 0 ≤ p) (hq : 1 ≤ q) (hpay : 0 ≤ pay) (k : Nat) : ∀ n, 0 ≤ n → (paidI p q pay k n = true ↔ oafter p q pay k n = 0) := by
  induction k with
  | zero => intro n h; simp [paidI, oafter]
  | succ k ih =>
    intro n h
    by_cases h0 : 0 < n
    · simp only [paidI]; rw [if_pos h0]
      by_cases hb : n ≤ onext p q pay n
      · rw [if_pos hb]
        have := oafter_stuck p q pay n hp hq hb (k + 1)
        simp; omega
      · rw [if_neg hb, oafter]
        exact ih _ (onext_nn _ _ _ _)
    · have : n = 0 := by omega
      subst this
      simp only [paidI]; rw [if_neg (by omega), oafter_zero p q pay hq hpay]; simp

/-- the least pay -/
def IsLeastPay (n p q : Int) (k : Nat) (x : Int) : Prop :=
  0 ≤ x ∧ x ≤ n + reven n p q ∧ oafter p q x k n = 0 ∧ ∀ y, 0 ≤ y → y < x → oafter p q y k n ≠ 0
theorem IsLeastPay.uniq {n p q : Int} {k : Nat} {x y : Int} (hx : IsLeastPay n p q k x) (hy : IsLeastPay n p q k y) : x = y := by
  obtain ⟨a1, _, a2, a3⟩ := hx
  obtain ⟨b1, _, b2, b3⟩ := hy
  by_cases h : x < y
  · exact absurd a2 (b3 x a1 h)
  · by_cases h' : y < x
    · exact absurd b2 (a3 y b1 h')
    · omega
theorem all_in_one (n p q : Int) (hn : 0 ≤ n) (hq : 1 ≤ q) (hp : 0 ≤ p) (hpq : p ≤ q) (k : Nat) (hk : 1 ≤ k) (x : Int) (hx : n + reven n p q ≤ x) : oafter p q x k n = 0 := by
  obtain ⟨j, rfl⟩ : ∃ j, k = j + 1 := ⟨k - 1, by omega⟩
  have h := reven_bd n p q hn hp hpq hq
  have : onext p q x n = 0 := by unfold onext; omega
  rw [oafter, this, oafter_zero p q x hq (by omega)]
theorem least_nat (P : Nat → Prop) (N : Nat) : P N → ∃ m, m ≤ N ∧ P m ∧ ∀ y, y < m → ¬ P y := by
  induction N using Nat.strongRecOn with
  | _ N ih =>
    intro h
    by_cases hx : ∃ y, y < N ∧ P y
    · obtain ⟨y, hy, hp⟩ := hx
      obtain ⟨m, h1, h2, h3⟩ := ih y hy hp
      exact ⟨m, by omega, h2, h3⟩
    · exact ⟨N, Nat.le_refl _, h, fun y hy hp => hx ⟨y, hy, hp⟩⟩
theorem exists_least (n p q : Int) (hn : 0 ≤ n) (hq : 1 ≤ q) (hp : 0 ≤ p) (hpq : p ≤ q) (k : Nat) (hk : 1 ≤ k) : ∃ L, IsLeastPay n p q k L := by
  have hb := reven_bd n p q hn hp hpq hq
  obtain ⟨N, hN⟩ := Int.eq_ofNat_of_zero_le (show 0 ≤ n + reven n p q by omega)
  obtain ⟨m, h1, h2, h3⟩ := least_nat (fun x => oafter p q (x : Int) k n = 0) N (all_in_one n p q hn hq hp hpq k hk _ (by omega))
  refine ⟨m, by omega, by omega, h2, fun y hy hym => ?_⟩
  obtain ⟨z, rfl⟩ := Int.eq_ofNat_of_zero_le hy
  exact h3 z (by omega)
theorem IsLeastPay.iff {n p q : Int} {k : Nat} {L : Int} (h : IsLeastPay n p q k L) (hn : 0 ≤ n) (hp : 0 ≤ p) (hq : 1 ≤ q) (y : Int) (hy : 0 ≤ y) : oafter p q y k n = 0 ↔ L ≤ y := by
  obtain ⟨a1, _, a2, a3⟩ := h
  constructor
  · intro h0
    by_cases hl : L ≤ y
    · exact hl
    · exact absurd h0 (a3 y hy (by omega))
  · intro hl
    have h1 := oafter_mono p q L y hp hq hl k n n (Int.le_refl _)
    have h2 := oafter_nn p q y k n hn
    omega
def lastOr (b : Int) : List Int → Int
  | [] => b
  | x :: l => lastOr x l
/-- each of the balances is the one before it a period later, and more is owed before it -/
theorem bal_step (p q pay : Int) (k : Nat) : ∀ n i, i < (bal p q pay k n).length → 0 < lastOr n ((bal p q pay k n).take i) ∧ lastOr n ((bal p q pay k n).take i) ≤ 1000000 ∧ (bal p q pay k n).getD i 0 = onext p q pay (lastOr n ((bal p q pay k n).take i)) := by
  induction k with
  | zero => intro n i h; simp [bal] at h
  | succ k ih =>
    intro n i h
    by_cases hc : 0 < n ∧ n ≤ 1000000
    · have e : bal p q pay (k + 1) n = onext p q pay n :: bal p q pay k (onext p q pay n) := by simp only [bal]; rw [if_pos hc]
      rw [e] at h ⊢
      cases i with
      | zero => exact ⟨hc.1, hc.2, rfl⟩
      | succ i => exact ih _ i (by simpa using h)
    · rw [bal_stop _ _ _ _ _ hc] at h; simp at h
theorem bal_end (p q pay : Int) (k : Nat) : ∀ n, (bal p q pay k n).length < k → ¬ (0 < lastOr n (bal p q pay k n) ∧ lastOr n (bal p q pay k n) ≤ 1000000) := by
  induction k with
  | zero => intro n h; simp at h
  | succ k ih =>
    intro n h
    by_cases hc : 0 < n ∧ n ≤ 1000000
    · have e : bal p q pay (k + 1) n = onext p q pay n :: bal p q pay k (onext p q pay n) := by simp only [bal]; rw [if_pos hc]
      rw [e] at h ⊢
      exact ih _ (by simpa using h)
    · rw [bal_stop _ _ _ _ _ hc]; exact hc
/-- the interest of all periods: of what is owed before each -/
def sumInt (p q : Int) : Int → List Int → Int
  | _, [] => 0
  | b, x :: l => reven b p q + sumInt p q x l
theorem sumInt_snoc (p q : Int) (l : List Int) : ∀ b x, sumInt p q b (l ++ [x]) = sumInt p q b l + reven (lastOr b l) p q := by
  induction l with
  | nil => intro b x; simp [sumInt, lastOr]
  | cons y l ih => intro b x; simp only [List.cons_append, sumInt, lastOr]; rw [ih]; omega
theorem lastOr_snoc (l : List Int) : ∀ b x, lastOr b (l ++ [x]) = x := by
  induction l with
  | nil => intro b x; rfl
  | cons y l ih => intro b x; simp only [List.cons_append, lastOr]; exact ih y x
theorem lastOr_in (l : List Int) : ∀ b, 0 ≤ b → b ≤ 1000000 → (∀ x ∈ l, 0 ≤ x ∧ x ≤ 1000000) → 0 ≤ lastOr b l ∧ lastOr b l ≤ 1000000 := by
  induction l with
  | nil => intro b h1 h2 _; exact ⟨h1, h2⟩
  | cons y l ih => intro b _ _ h; simp only [lastOr]; exact ih y (h y (by simp)).1 (h y (by simp)).2 (fun x hx => h x (by simp [hx]))
theorem sumInt_in (p q : Int) (hp : 0 ≤ p) (hpq : p ≤ q) (hq : 1 ≤ q) (l : List Int) : ∀ b, 0 ≤ b → b ≤ 1000000 → (∀ x ∈ l, 0 ≤ x ∧ x ≤ 1000000) → 0 ≤ sumInt p q b l ∧ sumInt p q b l ≤ 1000000 * l.length := by
  induction l with
  | nil => intro b _ _ _; simp [sumInt]
  | cons y l ih =>
    intro b h1 h2 h
    have := ih y (h y (by simp)).1 (h y (by simp)).2 (fun x hx => h x (by simp [hx]))
    have := reven_bd b p q h1 hp hpq hq
    simp only [sumInt, List.length_cons]; omega
theorem bal_last (p q pay : Int) (k : Nat) (n : Int) : (bal p q pay k n ≠ []) → lastOr n (bal p q pay k n) = (bal p q pay k n).getD ((bal p q pay k n).length - 1) 0 := by
  generalize bal p q pay k n = l
  intro h
  induction l generalizing n with
  | nil => exact absurd rfl h
  | cons y l ih =>
    simp only [lastOr]
    cases l with
    | nil => rfl
    | cons z l =>
      rw [ih y (by simp)]
      rfl
/-- the sum of the interest of a loan, -1 if something is still owed or is too much -/
def interest (p q pay n : Int) : Int :=
  if ∀ x ∈ bal p q pay 60 n, 0 ≤ x ∧ x ≤ 1000000 then (if 0 < lastOr n (bal p q pay 60 n) then -1 else sumInt p q n (bal p q pay 60 n)) else -1
theorem bal_pos (p q pay n : Int) (h : 0 < n) (h2 : n ≤ 1000000) : bal p q pay 60 n ≠ [] := by
  rw [show (60 : Nat) = 59 + 1 from rfl]
  simp only [bal]; rw [if_pos ⟨h, h2⟩]; simp
/-- who pays more owes less -/
theorem bal_more (p q a b : Int) (hp : 0 ≤ p) (hq : 1 ≤ q) (hab : a ≤ b) (k : Nat) : ∀ n m, n ≤ m → m ≤ 1000000 → (∀ x ∈ bal p q a k m, x ≤ 1000000) →
    (bal p q b k n).length ≤ (bal p q a k m).length ∧ ∀ i, i < (bal p q b k n).length → (bal p q b k n).getD i 0 ≤ (bal p q a k m).getD i 0 := by
  induction k with
  | zero => intro n m _ _ _; simp [bal]
  | succ k ih =>
    intro n m hnm hm hall
    by_cases hn : 0 < n
    · have e1 : bal p q b (k + 1) n = onext p q b n :: bal p q b k (onext p q b n) := by simp only [bal]; rw [if_pos ⟨hn, by omega⟩]
      have e2 : bal p q a (k + 1) m = onext p q a m :: bal p q a k (onext p q a m) := by simp only [bal]; rw [if_pos ⟨by omega, hm⟩]
      rw [e2] at hall
      rw [e1, e2]
      have h1 : onext p q b n ≤ onext p q a m := Int.le_trans (onext_mono p q b n m hp hq hnm) (onext_pay p q a b m hab)
      obtain ⟨i1, i2⟩ := ih _ _ h1 (hall _ (by simp)) (fun x hx => hall x (by simp [hx]))
      refine ⟨by simp only [List.length_cons]; omega, fun i hi => ?_⟩
      cases i with
      | zero => simpa using h1
      | succ i => simpa using i2 i (by simpa using hi)
    · rw [bal_stop p q b n (k + 1) (by omega)]; simp
theorem bal_le_of (p q b : Int) (k : Nat) (n : Int) (l : List Int) (h1 : (bal p q b k n).length ≤ l.length) (h2 : ∀ i, i < (bal p q b k n).length → (bal p q b k n).getD i 0 ≤ l.getD i 0) (h3 : ∀ x ∈ l, x ≤ 1000000) : ∀ x ∈ bal p q b k n, 0 ≤ x ∧ x ≤ 1000000 := by
  intro x hx
  refine ⟨bal_nn p q b k n x hx, ?_⟩
  obtain ⟨i, hi, rfl⟩ := List.getElem_of_mem hx
  have := h2 i hi
  rw [List.getD_eq_getElem?_getD, List.getElem?_eq_getElem hi, List.getD_eq_getElem?_getD, List.getElem?_eq_getElem (by omega)] at this
  have h4 := h3 _ (List.getElem_mem (l := l) (n := i) (by omega))
  simp at this; omega
/-- a loan that is paid back falls -/
theorem paid_bal (p q pay : Int) (hp : 0 ≤ p) (hq : 1 ≤ q) (P : Nat) : ∀ k n, P ≤ k → 0 ≤ n → n ≤ 1000000 → oafter p q pay P n = 0 → (bal p q pay k n).length ≤ P ∧ (∀ x ∈ bal p q pay k n, 0 ≤ x ∧ x ≤ 1000000) ∧ lastOr n (bal p q pay k n) = 0 := by
  induction P with
  | zero =>
    intro k n _ _ _ h
    have h0 : n = 0 := h
    rw [bal_stop _ _ _ _ _ (by omega)]
    exact ⟨by simp, by simp, h0⟩
  | succ P ih =>
    intro k n hk h0 h1 h
    by_cases hn : 0 < n
    · obtain ⟨j, rfl⟩ : ∃ j, k = j + 1 := ⟨k - 1, by omega⟩
      have e1 : bal p q pay (j + 1) n = onext p q pay n :: bal p q pay j (onext p q pay n) := by simp only [bal]; rw [if_pos ⟨hn, h1⟩]
      have hlt : onext p q pay n < n := by
        by_cases hh : n ≤ onext p q pay n
        · have := oafter_stuck p q pay n hp hq hh (P + 1); omega
        · omega
      have hnn := onext_nn p q pay n
      obtain ⟨i1, i2, i3⟩ := ih j (onext p q pay n) (by omega) hnn (by omega) h
      rw [e1]
      refine ⟨by simp only [List.length_cons]; omega, fun x hx => ?_, i3⟩
      rcases List.mem_cons.1 hx with rfl | hx
      · omega
      · exact i2 x hx
    · rw [bal_stop _ _ _ _ _ (by omega)]
      exact ⟨by simp, by simp, by show n = 0; omega⟩
theorem bal_paid (p q pay : Int) (hq : 1 ≤ q) (hpay : 0 ≤ pay) (k : Nat) : ∀ P n, (bal p q pay k n).length ≤ P → lastOr n (bal p q pay k n) = 0 → oafter p q pay P n = 0 := by
  induction k with
  | zero => intro P n _ h; have h0 : n = 0 := h; rw [h0]; exact oafter_zero p q pay hq hpay P
  | succ k ih =>
    intro P n hl h
    by_cases hc : 0 < n ∧ n ≤ 1000000
    · have e1 : bal p q pay (k + 1) n = onext p q pay n :: bal p q pay k (onext p q pay n) := by simp only [bal]; rw [if_pos hc]
      rw [e1] at hl h
      obtain ⟨j, rfl⟩ : ∃ j, P = j + 1 := ⟨P - 1, by simp only [List.length_cons] at hl; omega⟩
      exact ih j _ (by simp only [List.length_cons] at hl; omega) h
    · rw [bal_stop _ _ _ _ _ hc] at h
      have h0 : n = 0 := h
      rw [h0]; exact oafter_zero p q pay hq hpay P
theorem least_one (n p q L : Int) (hL : IsLeastPay n p q 1 L) (hn : 0 ≤ n) (hp : 0 ≤ p) (hpq : p ≤ q) (hq : 1 ≤ q) : L = n + reven n p q := by
  have hb := reven_bd n p q hn hp hpq hq
  have h1 : oafter p q L 1 n = onext p q L n := rfl
  have h2 := hL.2.2.1
  rw [h1] at h2
  have h3 := hL.2.1
  unfold onext at h2; omega
theorem least_zero (n p q L : Int) (k : Nat) (hL : IsLeastPay n p q k L) (hn : 0 ≤ n) (hp : 0 ≤ p) (hpq : p ≤ q) (hq : 1 ≤ q) : n = 0 ↔ L = 0 := by
  constructor
  · intro h
    subst h
    by_cases h0 : L = 0
    · exact h0
    · exact absurd (oafter_zero p q 0 hq (Int.le_refl 0) k) (hL.2.2.2 0 (Int.le_refl 0) (by have := hL.1; omega))
  · intro h
    subst h
    have hb := reven_bd n p q hn hp hpq hq
    have := oafter_stuck p q 0 n hp hq (by unfold onext; omega) k
    have h2 := hL.2.2.1
    omega
theorem interest_part (p q pay n : Int) (l : List Int) (hS : ∀ i, i < l.length → 0 < lastOr n (l.take i) ∧ l.getD i 0 = onext p q pay (lastOr n (l.take i))) :
    ∀ j, j + 1 ≤ l.length → sumInt p q n (l.take j) = lastOr n (l.take j) - n + pay * (j : Int) := by
  intro j
  induction j with
  | zero => intro _; simp [sumInt, lastOr]
  | succ j ih =>
    intro hj
    have htk : l.take (j + 1) = l.take j ++ [l.getD j 0] := by
      rw [List.take_succ_eq_append_getElem (by omega), List.getD_eq_getElem?_getD, List.getElem?_eq_getElem (by omega)]; rfl
    have h1 := (hS (j + 1) (by omega)).1
    have h2 := (hS j (by omega)).2
    rw [htk, lastOr_snoc] at h1
    rw [htk, sumInt_snoc, lastOr_snoc, ih (by omega)]
    unfold onext at h2
    have e : pay * ((j + 1 : Nat) : Int) = pay * (j : Int) + pay := by rw [Int.natCast_add, Int.mul_add]; simp
    rw [e]
    omega
theorem interest_all (p q pay n : Int) (l : List Int) (hS : ∀ i, i < l.length → 0 < lastOr n (l.take i) ∧ l.getD i 0 = onext p q pay (lastOr n (l.take i))) (hl : 0 < l.length) (hz : lastOr n l = 0) :
    sumInt p q n l = pay * ((l.length : Int) - 1) + (lastOr n (l.take (l.length - 1)) + reven (lastOr n (l.take (l.length - 1))) p q) - n ∧ lastOr n (l.take (l.length - 1)) + reven (lastOr n (l.take (l.length - 1))) p q ≤ pay := by
  have h1 := interest_part p q pay n l hS (l.length - 1) (by omega)
  have htk : l = l.take (l.length - 1) ++ [l.getD (l.length - 1) 0] := by
    have := List.take_succ_eq_append_getElem (l := l) (i := l.length - 1) (by omega)
    rw [show l.length - 1 + 1 = l.length by omega, List.take_of_length_le (Nat.le_refl _)] at this
    rw [List.getD_eq_getElem?_getD, List.getElem?_eq_getElem (by omega)]
    exact this
  have h2 := (hS (l.length - 1) (by omega)).2
  have h3 : l.getD (l.length - 1) 0 = 0 := by
    rw [htk, lastOr_snoc] at hz; exact hz
  have e : ((l.length - 1 : Nat) : Int) = (l.length : Int) - 1 := by omega
  rw [e] at h1
  have h4 : sumInt p q n l = sumInt p q n (l.take (l.length - 1)) + reven (lastOr n (l.take (l.length - 1))) p q := by
    conv => lhs; rw [htk]
    rw [sumInt_snoc]
  rw [h3] at h2
  unfold onext at h2
  refine ⟨by rw [h4, h1]; omega, by omega⟩
theorem lastOr_take (n : Int) (l : List Int) (j : Nat) (h : j < l.length) : lastOr n (l.take (j + 1)) = l.getD j 0 := by
  rw [List.take_succ_eq_append_getElem h, lastOr_snoc, List.getD_eq_getElem?_getD, List.getElem?_eq_getElem h]; rfl
end Go.Proofs.Ytjdfdikifiljjab
