/- Sets of members that are left: in plain numbers. -/
import Derived.Test.YtgmhodmgbhpdaadOrders
import Derived.Test.YtgmhodmgbhpdaadOrd1
namespace Go.Proofs.Ytgmhodmgbhpdaad
open Go.ChangeShapes Go.WideShapes Go.ChangeAt Go.RowKit Go.Joins Go.Sort
set_option linter.unusedVariables false

theorem bit_lx {s i : Nat} (h : s.testBit i = true) : 2 ^ i ≤ s := Nat.ge_two_pow_of_testBit h
def mns (s i : Nat) : Nat := s - 2 ^ i
theorem mns_bit {s i : Nat} (h : s.testBit i = true) : (mns s i).testBit i = false := by
  unfold mns
  rw [Nat.testBit_eq_decide_div_mod_eq, decide_eq_true_eq] at h
  rw [Nat.testBit_eq_decide_div_mod_eq, decide_eq_false_iff_not]
  have e := Nat.sub_mul_div s (2 ^ i) 1
  rw [Nat.mul_one] at e
  rw [e]; omega
theorem mns_plus {s i : Nat} (h : s.testBit i = true) : mns s i + 2 ^ i = s := Nat.sub_add_cancel (bit_lx h)
theorem mns_test {s i k : Nat} (h : s.testBit i = true) : (mns s i).testBit k = (s.testBit k && decide (k ≠ i)) := by
  have e := add_bit i (mns s i) k (mns_bit h)
  rw [Nat.add_comm, mns_plus h] at e
  by_cases hk : k = i
  · subst hk; rw [mns_bit h]; simp
  · rw [e]; simp [hk]
theorem filK_bt {p q : Nat → Bool} {i : Nat} (hq : ∀ k, q k = (p k && decide (k ≠ i))) (n : Nat) : filK q n = (filK p n).filter (fun x => decide (x ≠ (i : Int))) := by
  induction n with
  | zero => rfl
  | succ n ih =>
    show filK q n ++ _ = (filK p n ++ _).filter _
    rw [List.filter_append, ih, hq n]
    by_cases hp : p n = true
    · by_cases e : n = i
      · subst e; simp
      · have : ((n : Nat) : Int) ≠ (i : Int) := by omega
        simp [hp, e, this]
    · rw [Bool.not_eq_true] at hp; simp [hp]
theorem flt_spot : ∀ {l : List Int} {k : Nat}, l.Nodup → k < l.length → l.filter (fun x => decide (x ≠ l.getD k 0)) = l.take k ++ l.drop (k + 1)
  | [], _, _, h => absurd h (Nat.not_lt_zero _)
  | a :: t, 0, hn, _ => by
    have hn' := List.nodup_cons.1 hn
    rw [List.filter_cons, if_neg (by simp)]
    simp only [List.take_zero, List.nil_append, List.drop_succ_cons, List.drop_zero]
    refine List.filter_eq_self.2 fun x hx => ?_
    simp only [List.getD_cons_zero, decide_eq_true_eq]
    rintro rfl; exact hn'.1 hx
  | a :: t, k + 1, hn, h => by
    have hn' := List.nodup_cons.1 hn
    have hk : k < t.length := by simpa using h
    have hm : t.getD k 0 ∈ t := by rw [List.getD_eq_getElem?_getD, List.getElem?_eq_getElem hk]; exact List.getElem_mem _
    have hne : a ≠ t.getD k 0 := by rintro rfl; exact hn'.1 hm
    simp only [List.getD_cons_succ]
    rw [List.filter_cons, if_pos (by simpa using hne), flt_spot hn'.2 hk]
    simp
theorem filK_nd (p : Nat → Bool) (n : Nat) : (filK p n).Nodup := by
  induction n with
  | zero => simp [filK]
  | succ n ih =>
    show (filK p n ++ _).Nodup
    rw [List.nodup_append]
    refine ⟨ih, by split <;> simp, fun x hx y hy => ?_⟩
    obtain ⟨i, h1, _, rfl⟩ := filK_mem.1 hx
    split at hy
    · rw [List.mem_singleton] at hy; omega
    · simp at hy
theorem mems_mns {s k : Nat} (hk : k < (mems s).length) : mems (mns s ((mems s).getD k 0).toNat) = (mems s).take k ++ (mems s).drop (k + 1) := by
  have hm : (mems s).getD k 0 ∈ mems s := getD_mem hk
  obtain ⟨i, h1, h2, h3⟩ := filK_mem.1 hm
  have hf := flt_spot (filK_nd s.testBit 20) hk
  have e := filK_bt (p := s.testBit) (q := (mns s i).testBit) (i := i) (fun j => mns_test h2) 20
  unfold mems at h3 ⊢
  rw [h3, Int.toNat_natCast, e, ← h3]; exact hf
theorem mems_fl {n : Nat} (h : n ≤ 20) : (mems (2 ^ n - 1)).length = n := by
  rw [mems_at (k := n) (by have := Nat.two_pow_pos n; omega) h]
  have : ∀ m, m ≤ n → (filK (2 ^ n - 1).testBit m).length = m := by
    intro m hm
    induction m with
    | zero => rfl
    | succ m ih =>
      rw [← filK_yes (by rw [Nat.testBit_two_pow_sub_one]; simp; omega), List.length_append, ih (by omega)]; rfl
  exact this n (Nat.le_refl _)
theorem mems_nd (s : Nat) : (mems s).Nodup := filK_nd _ _
/-- all members -/
def numsO (n : Nat) : List Int := (List.range n).map fun (i : Nat) => (i : Int)
theorem numsO_len (n : Nat) : (numsO n).length = n := by simp [numsO]
theorem numsO_at {n j : Nat} (h : j < n) : (numsO n).getD j 0 = j := by simp [numsO, List.getD_eq_getElem?_getD, h]
theorem mems_nums {n : Nat} (h : n ≤ 20) : mems (2 ^ n - 1) = numsO n := by
  rw [mems_at (k := n) (by have := Nat.two_pow_pos n; omega) h]
  have : ∀ m, m ≤ n → filK (2 ^ n - 1).testBit m = numsO m := by
    intro m hm
    induction m with
    | zero => rfl
    | succ m ih =>
      rw [← filK_yes (by rw [Nat.testBit_two_pow_sub_one]; simp; omega), ih (by omega)]
      simp [numsO, List.range_succ]
  exact this n (Nat.le_refl _)
/-- all members but one -/
theorem mems_but {n k : Nat} (h : n ≤ 20) (hk : k < n) : mems (mns (2 ^ n - 1) k) = (numsO n).take k ++ (numsO n).drop (k + 1) := by
  have h2 := mems_nums h
  have h3 := mems_mns (s := 2 ^ n - 1) (k := k) (by rw [h2, numsO_len]; exact hk)
  rw [h2, numsO_at hk, Int.toNat_natCast] at h3
  exact h3
theorem but_len {n k : Nat} (hk : k < n) : ((numsO n).take k ++ (numsO n).drop (k + 1)).length = n - 1 := by
  rw [List.length_append, List.length_take, List.length_drop, numsO_len]; omega
def ob (k i : Nat) : Nat := if i < k then i else i + 1
theorem but_at {n k i : Nat} (hk : k < n) (hi : i < n - 1) : ((numsO n).take k ++ (numsO n).drop (k + 1)).getD i 0 = ob k i := by
  unfold ob
  rw [List.getD_eq_getElem?_getD]
  by_cases h : i < k
  · rw [List.getElem?_append_left (by rw [List.length_take, numsO_len]; omega), List.getElem?_take_of_lt h, ← List.getD_eq_getElem?_getD, numsO_at (by omega), if_pos h]
  · rw [List.getElem?_append_right (by rw [List.length_take, numsO_len]; omega), List.length_take, numsO_len, List.getElem?_drop, ← List.getD_eq_getElem?_getD, numsO_at (by omega), if_neg h]; omega
theorem full_bit {n k : Nat} (hk : k < n) : (2 ^ n - 1).testBit k = true := by rw [Nat.testBit_two_pow_sub_one]; exact decide_eq_true hk
end Go.Proofs.Ytgmhodmgbhpdaad
