/- Chapter 3: net amounts and credit in plain numbers. -/
import Derived.Test.YtgmhodmgbhpdaadOrd2
namespace Go.Proofs.Ytgmhodmgbhpdaad
open Go.ChangeShapes Go.WideShapes Go.ChangeAt Go.RowKit Go.Joins Go.Sort
set_option linter.unusedVariables false

/-- how many of the numbers below k are in a list -/
def cnt (m : List Int) : Nat → Nat
  | 0 => 0
  | k + 1 => cnt m k + if (k : Int) ∈ m then 1 else 0
theorem cnt_cons {a : Int} {t : List Int} (ha : a ∉ t) (k : Nat) : cnt (a :: t) k = cnt t k + if 0 ≤ a ∧ a < (k : Int) then 1 else 0 := by
  induction k with
  | zero => simp [cnt]
  | succ k ih =>
    show cnt (a :: t) k + _ = cnt t k + _ + _
    rw [ih]
    by_cases e : a = (k : Int)
    · subst e
      rw [if_neg (by omega), if_pos (List.mem_cons_self ..), if_neg ha, if_pos (by omega)]
    · by_cases hk : (k : Int) ∈ t
      · rw [if_pos (List.mem_cons_of_mem _ hk), if_pos hk]
        by_cases h2 : 0 ≤ a ∧ a < (k : Int)
        · rw [if_pos h2, if_pos (by omega)]
        · rw [if_neg h2, if_neg (by omega)]
      · have hk2 : ¬ (k : Int) ∈ a :: t := by rw [List.mem_cons]; rintro (h | h); exact e h.symm; exact hk h
        rw [if_neg hk2, if_neg hk]
        by_cases h2 : 0 ≤ a ∧ a < (k : Int)
        · rw [if_pos h2, if_pos (by omega)]
        · rw [if_neg h2, if_neg (by omega)]
theorem cnt_nil (k : Nat) : cnt [] k = 0 := by
  induction k with
  | zero => rfl
  | succ k ih => show cnt [] k + _ = 0; rw [ih]; simp
theorem cnt_len {m : List Int} {n : Nat} (h : ∀ x ∈ m, 0 ≤ x ∧ x ≤ (n : Int) - 1) (hn : m.Nodup) : cnt m n = m.length := by
  induction m with
  | nil => exact cnt_nil n
  | cons a t ih =>
    have hn' := List.nodup_cons.1 hn
    have ha := h a (List.mem_cons_self ..)
    rw [cnt_cons hn'.1, ih (fun x hx => h x (List.mem_cons_of_mem _ hx)) hn'.2, if_pos (by omega)]; rfl
theorem cnt_take {l : List Int} (h : vo l = true) {r : Int} (h0 : 0 ≤ r) (h1 : r ≤ (l.length : Int)) : (cnt (l.take r.toNat) l.length : Int) = r := by
  obtain ⟨_, hx, hn⟩ := vo_facts h
  rw [cnt_len (fun x hx' => hx x (List.mem_of_mem_take hx')) (List.Sublist.nodup (List.take_sublist _ _) hn), List.length_take]; omega
theorem posK_net (l : List Int) (a q r : Int) (n : Nat) (h0 : 0 ≤ a + q) (h1 : a ≤ 0) : ∀ k, k ≤ n → posK (netT l a q r n) k = (a + q) * (cnt (l.take r.toNat) k : Int) := by
  intro k
  induction k with
  | zero => intro _; simp [posK, cnt]
  | succ k ih =>
    intro hk
    show posK _ k + max 0 ((netT l a q r n).getD k 0) = _
    rw [ih (by omega), netT_at _ _ _ _ _ _ (by omega)]
    show _ = (a + q) * ((cnt (l.take r.toNat) k + if (k : Int) ∈ l.take r.toNat then 1 else 0 : Nat) : Int)
    unfold netI
    by_cases hm : (k : Int) ∈ l.take r.toNat
    · rw [if_pos hm, if_pos hm, Int.max_eq_right h0, Int.natCast_add, Int.mul_add]; simp
    · rw [if_neg hm, if_neg hm, Int.max_eq_left h1]; simp
/-- the sum of a list's first numbers -/
def sgK (l : List Int) : Nat → Int
  | 0 => 0
  | k + 1 => sgK l k + l.getD k 0
theorem sgK_net (l : List Int) (a q r : Int) (n : Nat) : ∀ k, k ≤ n → sgK (netT l a q r n) k = a * (k : Int) + q * (cnt (l.take r.toNat) k : Int) := by
  intro k
  induction k with
  | zero => intro _; simp [sgK, cnt]
  | succ k ih =>
    intro hk
    show sgK _ k + (netT l a q r n).getD k 0 = _
    rw [ih (by omega), netT_at _ _ _ _ _ _ (by omega)]
    show _ = a * ((k + 1 : Nat) : Int) + q * ((cnt (l.take r.toNat) k + if (k : Int) ∈ l.take r.toNat then 1 else 0 : Nat) : Int)
    unfold netI
    by_cases hm : (k : Int) ∈ l.take r.toNat
    · rw [if_pos hm, if_pos hm, Int.natCast_add, Int.natCast_add, Int.mul_add, Int.mul_add]; simp; omega
    · rw [if_neg hm, if_neg hm, Int.natCast_add, Int.mul_add]; simp; omega
theorem net_sum {l : List Int} {p r : Int} (h : netOk l p r) : sgK (netL l p r) l.length = 0 := by
  rw [netL_yes h, sgK_net _ _ _ _ _ _ (Nat.le_refl _), cnt_take h.1 h.2.2.1 h.2.2.2]
  rw [Int.neg_mul, Int.neg_mul, Int.mul_assoc, Int.mul_assoc]
  have e : r * (p * (l.length : Int)) = (l.length : Int) * (p * r) := by
    rw [← Int.mul_assoc, Int.mul_comm, Int.mul_comm r p]
  rw [e]; omega
theorem crd_val {l : List Int} {p r : Int} (h : netOk l p r) : crd l p r = p * r * ((l.length : Int) - r) := by
  have hb := netOk_bd h
  have e1 : -r * p + (l.length : Int) * p = ((l.length : Int) - r) * p := by rw [Int.sub_mul, Int.neg_mul]; omega
  have h0 : 0 ≤ -r * p + (l.length : Int) * p := by rw [e1]; exact Int.mul_nonneg (by have := h.2.2.2; omega) h.2.1.1
  rw [crd_yes h, netL_yes h, posK_net _ _ _ _ _ h0 hb.2.1.2 _ (Nat.le_refl _), cnt_take h.1 h.2.2.1 h.2.2.2, e1, Int.mul_assoc, Int.mul_comm]
theorem net_all {l : List Int} {p r : Int} (h : netOk l p r) (hr : r = 0 ∨ r = (l.length : Int)) (i : Nat) (hi : i < l.length) : (netL l p r).getD i 0 = 0 := by
  rw [netL_yes h, netT_at _ _ _ _ _ _ hi]
  unfold netI
  rcases hr with rfl | rfl
  · rw [if_neg (by simp)]; simp
  · rw [if_pos (by rw [Int.toNat_natCast, List.take_length]; exact vo_mem h.1 hi), Int.neg_mul]; omega
theorem net_first {l : List Int} {p r : Int} (h : netOk l p r) (h0 : r ≠ 0) (h1 : r ≠ (l.length : Int)) {c d : Nat} (hc : l.getD 0 0 = (c : Int)) (hd : l.getD (l.length - 1) 0 = (d : Int)) (hcl : c < l.length) (hdl : d < l.length) : (netL l p r).getD d 0 ≤ (netL l p r).getD c 0 := by
  have hb := netOk_bd h
  have hn := (vo_facts h.1).2.2
  have h2 := h.2.2
  rw [netL_yes h, netT_at _ _ _ _ _ _ hcl, netT_at _ _ _ _ _ _ hdl]
  unfold netI
  have m1 : (c : Int) ∈ l.take r.toNat := by rw [← hc]; exact (mem_take_iff hn (by omega) _).2 (by omega)
  have m2 : ¬ (d : Int) ∈ l.take r.toNat := by rw [← hd]; exact fun hm => by have := (mem_take_iff hn (show l.length - 1 < l.length by omega) _).1 hm; omega
  rw [if_pos m1, if_neg m2]
  omega
end Go.Proofs.Ytgmhodmgbhpdaad
