/- Chapter 2: the runoff: plain numbers, and the program's own contracts. -/
import Derived.Test.YtjdfdikifiljjacLeast
import Derived.Test.YtjdfdikifiljjacRanks5
namespace Go.Proofs.Ytjdfdikifiljjac
open Go.ChangeShapes Go.WideShapes Go.ChangeAt Go.RowKit Go.Joins Go.Sort
set_option linter.unusedVariables false

/-- the first of a list that is in a set; -1 for none -/
def fstS : List Int → Nat → Int
  | [], _ => -1
  | x :: r, s => if s.testBit x.toNat = true then x else fstS r s
theorem fstS_at {r : List Int} {s k : Nat} (hk : k < r.length) (h : s.testBit (r.getD k 0).toNat = true) (hb : ∀ i, i < k → s.testBit (r.getD i 0).toNat = false) : fstS r s = r.getD k 0 := by
  induction r generalizing k with
  | nil => exact absurd hk (Nat.not_lt_zero _)
  | cons x t ih =>
    unfold fstS
    match k with
    | 0 => rw [if_pos (by simpa using h)]; simp
    | k + 1 =>
      have h0 := hb 0 (by omega)
      rw [if_neg (by simpa using h0)]
      rw [ih (k := k) (by simpa using hk) (by simpa using h) (fun i hi => by simpa using hb (i + 1) (by omega))]
      simp
theorem fstS_none {r : List Int} {s : Nat} (hb : ∀ i, i < r.length → s.testBit (r.getD i 0).toNat = false) : fstS r s = -1 := by
  induction r with
  | nil => rfl
  | cons x t ih =>
    unfold fstS
    have h0 := hb 0 (by simp)
    rw [if_neg (by simpa using h0)]
    exact ih fun i hi => by simpa using hb (i + 1) (by simpa using hi)
theorem fstS_mem {r : List Int} {s : Nat} {x : Int} (hx : x ∈ r) (h : s.testBit x.toNat = true) : fstS r s ∈ r ∧ s.testBit (fstS r s).toNat = true := by
  induction r with
  | nil => exact absurd hx (by simp)
  | cons y t ih =>
    unfold fstS
    by_cases hy : s.testBit y.toNat = true
    · rw [if_pos hy]; exact ⟨List.mem_cons_self .., hy⟩
    · rw [if_neg hy]
      rcases List.mem_cons.1 hx with rfl | hx
      · exact absurd h hy
      · exact ⟨List.mem_cons_of_mem _ (ih hx).1, (ih hx).2⟩

/-- how many lists have each choice as the first one of a set -/
def frF (rk : List (List Int)) (s : Nat) : Nat → Nat → Int := fun S j => if fstS (rk.getD S []) s = (j : Int) then 1 else 0
theorem fr_yes {rk : List (List Int)} {s c k : Nat} (h : fstS (rk.getD k []) s = (c : Int)) : acc (frF rk s) c (k + 1) = acc (frF rk s) c k + 1 := by
  show acc _ c k + frF rk s k c = _; unfold frF; rw [if_pos h]
theorem fr_no {rk : List (List Int)} {s c k : Nat} (h : fstS (rk.getD k []) s ≠ (c : Int)) : acc (frF rk s) c (k + 1) = acc (frF rk s) c k := by
  show acc _ c k + frF rk s k c = _; unfold frF; rw [if_neg h]; omega
theorem fr_bd (rk : List (List Int)) (s c k : Nat) : 0 ≤ acc (frF rk s) c k ∧ acc (frF rk s) c k ≤ k := by
  have := acc_bd (frF rk s) 1 (fun S j => by unfold frF; split <;> omega) c k
  omega
theorem fr_set {rk : List (List Int)} {s c n k : Nat} (hc : c < n) (h : fstS (rk.getD k []) s = (c : Int)) : (accL (frF rk s) n k).set c ((accL (frF rk s) n k).getD c 0 + 1) = accL (frF rk s) n (k + 1) := by
  refine getD_ext (by simp [accL_len]) fun j hj => ?_
  rw [List.length_set, accL_len] at hj
  rw [set_at _ _ _ _ (by rw [accL_len]; exact hc), accL_at _ _ _ _ hj, accL_at _ _ _ _ hj]
  by_cases e : j = c
  · subst e; rw [if_pos rfl, accL_at _ _ _ _ hj, fr_yes h]
  · rw [if_neg e, fr_no (by rw [h]; omega)]

/-- the last of the fewest, after k numbers of a list -/
def wkK (f : Int → Int) (l : List Int) (n : Int) : Nat → Int × Int
  | 0 => (-1, n)
  | k + 1 => if f (l.getD k 0) ≤ (wkK f l n k).2 then (l.getD k 0, f (l.getD k 0)) else wkK f l n k
theorem wk_yes {f : Int → Int} {l : List Int} {n : Int} {k : Nat} (h : f (l.getD k 0) ≤ (wkK f l n k).2) : wkK f l n (k + 1) = (l.getD k 0, f (l.getD k 0)) := if_pos h
theorem wk_no {f : Int → Int} {l : List Int} {n : Int} {k : Nat} (h : ¬ f (l.getD k 0) ≤ (wkK f l n k).2) : wkK f l n (k + 1) = wkK f l n k := if_neg h
theorem wk_in {f : Int → Int} {l : List Int} {n : Int} (hf : ∀ x, f x ≤ n) : ∀ k, 0 < k → k ≤ l.length → ∃ i, i < k ∧ (wkK f l n k).1 = l.getD i 0 ∧ (wkK f l n k).2 = f (l.getD i 0)
  | 0, h, _ => absurd h (Nat.lt_irrefl 0)
  | k + 1, _, h => by
    by_cases hc : f (l.getD k 0) ≤ (wkK f l n k).2
    · rw [wk_yes hc]; exact ⟨k, by omega, rfl, rfl⟩
    · rw [wk_no hc]
      by_cases hk : 0 < k
      · obtain ⟨i, h1, h2, h3⟩ := wk_in (l := l) hf k hk (by omega)
        exact ⟨i, by omega, h2, h3⟩
      · obtain rfl : k = 0 := by omega
        exact absurd (hf _) hc
/-- how many lists have a choice as the first one of a set -/
def frN (rk : List (List Int)) (s : Nat) : Int → Int := fun c => acc (frF rk s) c.toNat rk.length
theorem frN_bd (rk : List (List Int)) (s : Nat) (c : Int) : 0 ≤ frN rk s c ∧ frN rk s c ≤ rk.length := fr_bd _ _ _ _
def wkst (rk : List (List Int)) (s : Nat) : Int := (wkK (frN rk s) (mems s) rk.length (mems s).length).1
def lfN (rk : List (List Int)) : Nat → Nat
  | 0 => 2 ^ (rk.getD 0 []).length - 1
  | j + 1 => minus (lfN rk j) (wkst rk (lfN rk j)).toNat

theorem minus_test {s i k : Nat} (h : s.testBit i = true) : (minus s i).testBit k = (s.testBit k && decide (k ≠ i)) := by
  have e := add_bit i (minus s i) k (minus_bit h)
  rw [Nat.add_comm, minus_plus h] at e
  by_cases hk : k = i
  · subst hk; rw [minus_bit h]; simp
  · rw [e]; simp [hk]
theorem filK_but {p q : Nat → Bool} {i : Nat} (hq : ∀ k, q k = (p k && decide (k ≠ i))) (n : Nat) : filK q n = (filK p n).filter (fun x => decide (x ≠ (i : Int))) := by
  induction n with
  | zero => rfl
  | succ n ih =>
    show filK q n ++ _ = (filK p n ++ _).filter _
    rw [List.filter_append, ih, hq n]
    by_cases hp : p n = true
    · by_cases e : n = i
      · subst e; simp
      · have : ((n : Nat) : Int) ≠ (i : Int) := by omega
        simp [hp, e, this]
    · rw [Bool.not_eq_true] at hp; simp [hp]
theorem filter_spot : ∀ {l : List Int} {k : Nat}, l.Nodup → k < l.length → l.filter (fun x => decide (x ≠ l.getD k 0)) = l.take k ++ l.drop (k + 1)
  | [], _, _, h => absurd h (Nat.not_lt_zero _)
  | a :: t, 0, hn, _ => by
    have hn' := List.nodup_cons.1 hn
    rw [List.filter_cons, if_neg (by simp)]
    simp only [List.take_zero, List.nil_append, List.drop_succ_cons, List.drop_zero]
    refine List.filter_eq_self.2 fun x hx => ?_
    simp only [List.getD_cons_zero, decide_eq_true_eq]
    rintro rfl; exact hn'.1 hx
  | a :: t, k + 1, hn, h => by
    have hn' := List.nodup_cons.1 hn
    have hk : k < t.length := by simpa using h
    have hm : t.getD k 0 ∈ t := by rw [List.getD_eq_getElem?_getD, List.getElem?_eq_getElem hk]; exact List.getElem_mem _
    have hne : a ≠ t.getD k 0 := by rintro rfl; exact hn'.1 hm
    simp only [List.getD_cons_succ]
    rw [List.filter_cons, if_pos (by simpa using hne), filter_spot hn'.2 hk]
    simp
theorem filK_nodup (p : Nat → Bool) (n : Nat) : (filK p n).Nodup := by
  induction n with
  | zero => simp [filK]
  | succ n ih =>
    show (filK p n ++ _).Nodup
    rw [List.nodup_append]
    refine ⟨ih, by split <;> simp, fun x hx y hy => ?_⟩
    obtain ⟨i, h1, _, rfl⟩ := filK_mem.1 hx
    split at hy
    · rw [List.mem_singleton] at hy; omega
    · simp at hy
theorem mems_minus {s k : Nat} (hk : k < (mems s).length) : mems (minus s ((mems s).getD k 0).toNat) = (mems s).take k ++ (mems s).drop (k + 1) := by
  have hm : (mems s).getD k 0 ∈ mems s := getD_mem hk
  obtain ⟨i, h1, h2, h3⟩ := filK_mem.1 hm
  have hf := filter_spot (filK_nodup s.testBit 20) hk
  have e := filK_but (p := s.testBit) (q := (minus s i).testBit) (i := i) (fun j => minus_test h2) 20
  unfold mems at h3 ⊢
  rw [h3, Int.toNat_natCast, e, ← h3]; exact hf
theorem wkst_in {rk : List (List Int)} {s : Nat} (h : 0 < (mems s).length) : ∃ i, i < (mems s).length ∧ wkst rk s = (mems s).getD i 0 := by
  obtain ⟨i, h1, h2, _⟩ := wk_in (f := frN rk s) (l := mems s) (n := rk.length) (fun x => (frN_bd rk s x).2) _ h (Nat.le_refl _)
  exact ⟨i, h1, h2⟩
theorem mems_full {n : Nat} (h : n ≤ 20) : (mems (2 ^ n - 1)).length = n := by
  rw [mems_at (k := n) (by have := Nat.two_pow_pos n; omega) h]
  have : ∀ m, m ≤ n → (filK (2 ^ n - 1).testBit m).length = m := by
    intro m hm
    induction m with
    | zero => rfl
    | succ m ih =>
      rw [← filK_yes (by rw [Nat.testBit_two_pow_sub_one]; simp; omega), List.length_append, ih (by omega)]; rfl
  exact this n (Nat.le_refl _)
theorem lf_len {rk : List (List Int)} (hc : (rk.getD 0 []).length ≤ 6) : ∀ j, j ≤ (rk.getD 0 []).length → (mems (lfN rk j)).length = (rk.getD 0 []).length - j
  | 0, _ => mems_full (by omega)
  | j + 1, h => by
    have ih := lf_len hc j (by omega)
    obtain ⟨i, h1, h2⟩ := wkst_in (rk := rk) (s := lfN rk j) (by omega)
    show (mems (minus _ _)).length = _
    rw [h2, mems_minus h1, List.length_append, List.length_take, List.length_drop]; omega
theorem lf_le (rk : List (List Int)) (hc : (rk.getD 0 []).length ≤ 6) : ∀ j, lfN rk j ≤ 63
  | 0 => by have := pow_le hc; show 2 ^ _ - 1 ≤ _; omega
  | j + 1 => minus_le (lf_le rk hc j)
theorem lf_lt (rk : List (List Int)) : ∀ j, lfN rk j < 2 ^ (rk.getD 0 []).length
  | 0 => by have := Nat.two_pow_pos (rk.getD 0 []).length; show 2 ^ _ - 1 < _; omega
  | j + 1 => Nat.lt_of_le_of_lt (Nat.sub_le _ _) (lf_lt rk j)
/-- the choice that stays -/
def roF (rk : List (List Int)) : Int := fstS (rk.getD 0 []) (lfN rk ((rk.getD 0 []).length - 1))
def roR (rk : List (List Int)) : Int := if vr rk = true then roF rk else -1
theorem ro_yes {rk : List (List Int)} (h : vr rk = true) : roR rk = roF rk := if_pos h
theorem ro_no {rk : List (List Int)} (h : vr rk = false) : roR rk = -1 := if_neg (by rw [h]; simp)
end Go.Proofs.Ytjdfdikifiljjac
