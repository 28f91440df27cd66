/- Chapter 3: net amounts and credit: contracts of the program and of the model. -/
import Derived.Test.YtgmhodmgbhpdaadOrd1
import Derived.Test.YtgmhodmgbhpdaadSets2
namespace Go.Proofs.Ytgmhodmgbhpdaad
open Go.ChangeShapes Go.WideShapes Go.ChangeAt Go.RowKit Go.Joins Go.Sort
set_option linter.unusedVariables false

/-- what a member with a turn got less what it paid -/
def netV (a p r : Int) (t : Nat) : Int := if (t : Int) < r then a + p else a
/-- turn by turn -/
def netS (l : List Int) (a p r : Int) : Nat → List Int
  | 0 => zeros l.length
  | c + 1 => (netS l a p r c).set (l.getD c 0).toNat (netV a p r c)
theorem netS_len (l : List Int) (a p r : Int) (c : Nat) : (netS l a p r c).length = l.length := by
  induction c with
  | zero => exact zeros_len _
  | succ c ih => show ((netS l a p r c).set _ _).length = _; rw [List.length_set, ih]
/-- member by member -/
def netI (l : List Int) (a p r : Int) (i : Nat) : Int := if (i : Int) ∈ l.take r.toNat then a + p else a
def netT (l : List Int) (a p r : Int) : Nat → List Int
  | 0 => []
  | k + 1 => netT l a p r k ++ [netI l a p r k]
theorem netT_len (l : List Int) (a p r : Int) (k : Nat) : (netT l a p r k).length = k := by
  induction k with
  | zero => rfl
  | succ k ih => show (netT l a p r k ++ _).length = _; rw [List.length_append, ih]; rfl
theorem netT_at (l : List Int) (a p r : Int) (k j : Nat) (h : j < k) : (netT l a p r k).getD j 0 = netI l a p r j := by
  induction k with
  | zero => omega
  | succ k ih =>
    show (netT l a p r k ++ _).getD j 0 = _
    rw [List.getD_eq_getElem?_getD]
    by_cases e : j < k
    · rw [List.getElem?_append_left (by rw [netT_len]; exact e), ← List.getD_eq_getElem?_getD, ih e]
    · obtain rfl : j = k := by omega
      rw [List.getElem?_append_right (by rw [netT_len]; omega), netT_len]; simp
/-- the facts of an order -/
theorem vo_facts {l : List Int} (h : vo l = true) : (1 ≤ l.length ∧ l.length ≤ 12) ∧ (∀ x ∈ l, 0 ≤ x ∧ x ≤ (l.length : Int) - 1) ∧ l.Nodup := by
  obtain ⟨h1, h2⟩ := vo_iff.1 h
  exact ⟨h1, (vmB_iff.1 h2)⟩
theorem vo_mem {l : List Int} (h : vo l = true) {j : Nat} (hj : j < l.length) : (j : Int) ∈ l := by
  obtain ⟨_, hx, hn⟩ := vo_facts h
  exact (full_len hn hx).2 rfl j hj
theorem vo_at {l : List Int} (h : vo l = true) {k : Nat} (hk : k < l.length) : ∃ c : Nat, l.getD k 0 = (c : Int) ∧ c < l.length := by
  obtain ⟨_, hx, _⟩ := vo_facts h
  have hm := hx _ (getD_mem hk)
  obtain ⟨c, hc⟩ := Int.eq_ofNat_of_zero_le hm.1
  exact ⟨c, hc, by omega⟩
theorem getD_inj {l : List Int} (hn : l.Nodup) {i j : Nat} (hi : i < l.length) (hj : j < l.length) (e : l.getD i 0 = l.getD j 0) : i = j := by
  have h1 := plc_nodup hn hi
  have h2 := plc_nodup hn hj
  rw [e] at h1
  omega
theorem mem_take_iff {l : List Int} (hn : l.Nodup) {k : Nat} (hk : k < l.length) (r : Nat) : l.getD k 0 ∈ l.take r ↔ k < r := by
  constructor
  · intro h
    obtain ⟨i, hi, e⟩ := mem_getD h
    rw [List.length_take] at hi
    rw [getD_take l r i (by omega)] at e
    have := getD_inj hn (by omega) hk e
    omega
  · intro h
    have hm : (l.take r).getD k 0 ∈ l.take r := getD_mem (by rw [List.length_take]; omega)
    rwa [getD_take l r k h] at hm
theorem netS_at {l : List Int} (h : vo l = true) (a p r : Int) : ∀ c, c ≤ l.length → ∀ k, k < c → (netS l a p r c).getD (l.getD k 0).toNat 0 = netV a p r k := by
  intro c
  induction c with
  | zero => intro _ k hk; omega
  | succ c ih =>
    intro hc k hk
    obtain ⟨m, hm, hml⟩ := vo_at h (show c < l.length by omega)
    show ((netS l a p r c).set _ _).getD _ 0 = _
    rw [set_at _ _ _ _ (by rw [netS_len, hm]; exact hml)]
    by_cases e : k = c
    · subst e; rw [if_pos rfl]
    · rw [if_neg, ih (by omega) k (by omega)]
      intro e2
      obtain ⟨m2, hm2, _⟩ := vo_at h (show k < l.length by omega)
      apply e
      apply getD_inj (vo_facts h).2.2 (by omega) (by omega)
      omega
theorem netS_T {l : List Int} (h : vo l = true) (a p r : Int) (hr : 0 ≤ r) : netS l a p r l.length = netT l a p r l.length := by
  apply getD_ext (by rw [netS_len, netT_len])
  intro j hj
  rw [netS_len] at hj
  obtain ⟨k, hk, e⟩ := mem_getD (vo_mem h hj)
  rw [netT_at _ _ _ _ _ _ hj]
  have h1 := netS_at h a p r l.length (Nat.le_refl _) k hk
  rw [e, Int.toNat_natCast] at h1
  rw [h1]
  unfold netV netI
  rw [← e]
  by_cases hkr : (k : Int) < r
  · rw [if_pos hkr, if_pos ((mem_take_iff (vo_facts h).2.2 hk _).2 (by omega))]
  · rw [if_neg hkr, if_neg (fun hm => hkr (by have := (mem_take_iff (vo_facts h).2.2 hk _).1 hm; omega))]
def netOk (l : List Int) (p r : Int) : Prop := vo l = true ∧ (0 ≤ p ∧ p ≤ 10000) ∧ 0 ≤ r ∧ r ≤ (l.length : Int)
instance (l : List Int) (p r : Int) : Decidable (netOk l p r) := by unfold netOk; infer_instance
def netL (l : List Int) (p r : Int) : List Int := if netOk l p r then netT l (-r * p) ((l.length : Int) * p) r l.length else []
theorem netL_yes {l : List Int} {p r : Int} (h : netOk l p r) : netL l p r = netT l (-r * p) ((l.length : Int) * p) r l.length := if_pos h
theorem netL_no {l : List Int} {p r : Int} (h : ¬ netOk l p r) : netL l p r = [] := if_neg h
theorem netL_len (l : List Int) (p r : Int) : (netL l p r).length ≤ l.length := by
  by_cases h : netOk l p r
  · rw [netL_yes h, netT_len]; omega
  · rw [netL_no h]; simp
theorem netOk_bd {l : List Int} {p r : Int} (h : netOk l p r) : (0 ≤ (l.length : Int) * p ∧ (l.length : Int) * p ≤ 120000) ∧ (-120000 ≤ -r * p ∧ -r * p ≤ 0) ∧ potOk l.length p := by
  obtain ⟨h1, h2, h3, h4⟩ := h
  have h5 := (vo_facts h1).1
  have hp : potOk l.length p := ⟨by omega, h2⟩
  have h6 := prod_bd (m := r) (p := p) (a := 12) (b := 10000) h3 (by omega) h2.1 h2.2
  rw [Int.neg_mul]
  exact ⟨pot_bd hp, by omega, hp⟩
theorem netI_bd {l : List Int} {p r : Int} (h : netOk l p r) (i : Nat) : -120000 ≤ netI l (-r * p) ((l.length : Int) * p) r i ∧ netI l (-r * p) ((l.length : Int) * p) r i ≤ 120000 := by
  have := netOk_bd h
  unfold netI; split <;> omega

/-- the sum of the numbers that are greater than 0 -/
def posK (l : List Int) : Nat → Int
  | 0 => 0
  | k + 1 => posK l k + max 0 (l.getD k 0)
theorem posK_bd (l : List Int) (h : ∀ i, i < l.length → l.getD i 0 ≤ 120000) (k : Nat) (hk : k ≤ l.length) : 0 ≤ posK l k ∧ posK l k ≤ 120000 * k := by
  induction k with
  | zero => simp [posK]
  | succ k ih =>
    have h1 := ih (by omega)
    have h2 := h k (by omega)
    unfold posK
    omega
theorem netL_bd (l : List Int) (p r : Int) (i : Nat) (hi : i < (netL l p r).length) : -120000 ≤ (netL l p r).getD i 0 ∧ (netL l p r).getD i 0 ≤ 120000 := by
  by_cases h : netOk l p r
  · rw [netL_yes h] at hi ⊢
    rw [netT_len] at hi
    rw [netT_at _ _ _ _ _ _ hi]
    exact netI_bd h i
  · rw [netL_no h] at hi; simp at hi
def crd (l : List Int) (p r : Int) : Int := if netOk l p r then posK (netL l p r) l.length else -1
theorem crd_yes {l : List Int} {p r : Int} (h : netOk l p r) : crd l p r = posK (netL l p r) l.length := if_pos h
theorem crd_no {l : List Int} {p r : Int} (h : ¬ netOk l p r) : crd l p r = -1 := if_neg h

end Go.Proofs.Ytgmhodmgbhpdaad
