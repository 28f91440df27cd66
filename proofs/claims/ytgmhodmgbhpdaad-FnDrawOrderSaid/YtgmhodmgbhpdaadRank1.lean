/- Chapter 3: numbers of orders, in plain numbers. -/
import Derived.Test.YtgmhodmgbhpdaadOrdP
import Derived.Test.YtgmhodmgbhpdaadOrdN
namespace Go.Proofs.Ytgmhodmgbhpdaad
open Go.ChangeShapes Go.WideShapes Go.ChangeAt Go.RowKit Go.Joins Go.Sort
set_option linter.unusedVariables false

/-- the members who are left after some turns -/
def lft (l : List Int) : Nat → Nat
  | 0 => 2 ^ l.length - 1
  | c + 1 => mns (lft l c) (l.getD c 0).toNat
/-- how many of those who are left come before the one whose turn it is -/
def bfr (l : List Int) (c : Nat) : Nat := (plc (mems (lft l c)) (l.getD c 0)).toNat
def rkI (l : List Int) : Nat → Nat
  | 0 => 0
  | c + 1 => rkI l c + bfr l c * fac (l.length - 1 - c)
def hor (l : List Int) : Nat → Nat
  | 0 => 0
  | c + 1 => hor l c * (l.length - c) + bfr l c
theorem lft_bit {l : List Int} (h : vo l = true) : ∀ c, c ≤ l.length → ∀ k, (lft l c).testBit k = (decide (k < l.length) && decide ((k : Int) ∉ l.take c)) := by
  intro c
  induction c with
  | zero => intro _ k; show (2 ^ l.length - 1).testBit k = _; rw [Nat.testBit_two_pow_sub_one]; simp
  | succ c ih =>
    intro hc k
    obtain ⟨m, hm, hml⟩ := vo_at h (show c < l.length by omega)
    have hn := (vo_facts h).2.2
    have hb : (lft l c).testBit m = true := by
      rw [ih (by omega) m, decide_eq_true hml, Bool.true_and]
      refine decide_eq_true ?_
      rw [← hm]
      intro h2
      have := (mem_take_iff hn (show c < l.length by omega) c).1 h2
      omega
    show (mns (lft l c) (l.getD c 0).toNat).testBit k = _
    rw [hm, Int.toNat_natCast, mns_test hb, ih (by omega) k, take_snoc l c (by omega), hm]
    rw [Bool.eq_iff_iff]
    simp only [Bool.and_eq_true, decide_eq_true_eq, List.mem_append, List.mem_singleton, not_or]
    constructor
    · rintro ⟨⟨a, b⟩, d⟩; exact ⟨a, b, by omega⟩
    · rintro ⟨a, b, d⟩; exact ⟨⟨a, b⟩, by omega⟩
theorem lft_in {l : List Int} (h : vo l = true) {c m : Nat} (hc : c < l.length) (hm : l.getD c 0 = (m : Int)) : (lft l c).testBit m = true := by
  have hml : m < l.length := by
    obtain ⟨m2, e, h2⟩ := vo_at h hc
    have : m2 = m := by omega
    omega
  rw [lft_bit h c (by omega), decide_eq_true hml, Bool.true_and]
  refine decide_eq_true ?_
  rw [← hm]
  intro h2
  have := (mem_take_iff (vo_facts h).2.2 hc c).1 h2
  omega
theorem lft_lt {l : List Int} (h : vo l = true) (c : Nat) (hc : c ≤ l.length) : lft l c < 2 ^ l.length := by
  apply Nat.lt_pow_two_of_testBit
  intro i hi
  rw [lft_bit h c hc, decide_eq_false (by omega), Bool.false_and]
theorem filK_lt {p : Nat → Bool} {k : Nat} {x : Int} (h : x ∈ filK p k) : 0 ≤ x ∧ x < k := by
  obtain ⟨i, h1, _, h3⟩ := filK_mem.1 h; omega
theorem plc_filK {p : Nat → Bool} {m : Nat} (hp : p m = true) : ∀ N, m < N → plc (filK p N) (m : Int) = (filK p m).length := by
  intro N
  induction N with
  | zero => intro h; omega
  | succ N ih =>
    intro h
    by_cases e : m = N
    · subst e
      have hm : (m : Int) ∈ filK p (m + 1) := filK_mem.2 ⟨m, by omega, hp, rfl⟩
      unfold plc
      rw [if_pos hm, ← filK_yes hp, List.idxOf_append, if_neg (fun h => by have := filK_lt h; omega)]
      simp
    · have hm : (m : Int) ∈ filK p N := filK_mem.2 ⟨m, by omega, hp, rfl⟩
      have hm2 : (m : Int) ∈ filK p (N + 1) := filK_mem.2 ⟨m, by omega, hp, rfl⟩
      have := ih (by omega)
      unfold plc at this ⊢
      rw [if_pos hm] at this
      rw [if_pos hm2]
      show (((filK p N ++ _).idxOf (m : Int) : Nat) : Int) = _
      rw [List.idxOf_append, if_pos hm]; exact this
theorem filK_cnt {p : Nat → Bool} {L : List Int} : ∀ k, (∀ i, i < k → p i = decide ((i : Int) ∈ L)) → (filK p k).length = cnt L k := by
  intro k
  induction k with
  | zero => intro _; rfl
  | succ k ih =>
    intro h
    show (filK p k ++ _).length = cnt L k + _
    rw [List.length_append, ih (fun i hi => h i (by omega)), h k (by omega)]
    by_cases e : (k : Int) ∈ L
    · simp [e]
    · simp [e]
/-- how many numbers of a list are less than one -/
def lsc (x : Int) : List Int → Nat
  | [] => 0
  | a :: t => (if a < x then 1 else 0) + lsc x t
theorem lsc_snoc (x : Int) (L : List Int) (a : Int) : lsc x (L ++ [a]) = lsc x L + if a < x then 1 else 0 := by
  induction L with
  | nil => simp [lsc]
  | cons b t ih => show _ + lsc x (t ++ [a]) = _ + lsc x t + _; rw [ih]; omega
theorem cnt_lsc {L : List Int} (hn : L.Nodup) (h0 : ∀ x ∈ L, 0 ≤ x) (m : Nat) : cnt L m = lsc (m : Int) L := by
  induction L with
  | nil => exact cnt_nil m
  | cons a t ih =>
    have hn' := List.nodup_cons.1 hn
    have ha := h0 a (List.mem_cons_self ..)
    rw [cnt_cons hn'.1, ih hn'.2 (fun x hx => h0 x (List.mem_cons_of_mem _ hx))]
    show _ = (if a < (m : Int) then 1 else 0) + _
    by_cases h : a < (m : Int)
    · rw [if_pos h, if_pos ⟨ha, h⟩]; omega
    · rw [if_neg h, if_neg (fun h2 => h h2.2)]; omega
theorem drop_head {l : List Int} {c : Nat} (h : c < l.length) : l.drop c = l.getD c 0 :: l.drop (c + 1) := by
  rw [List.drop_eq_getElem_cons h, List.getD_eq_getElem?_getD, List.getElem?_eq_getElem h]; rfl
theorem lft_cnt {l : List Int} (h : vo l = true) {c m : Nat} (hc : c ≤ l.length) (hml : m ≤ l.length) : (filK (lft l c).testBit m).length = cnt (l.drop c) m := by
  refine filK_cnt m fun i hi => ?_
  have hil : i < l.length := Nat.lt_of_lt_of_le hi hml
  rw [lft_bit h c hc, decide_eq_true hil, Bool.true_and]
  have hmem := vo_mem h hil
  have hdis := (vo_facts h).2.2
  rw [← List.take_append_drop c l] at hmem hdis
  rw [List.nodup_append] at hdis
  by_cases h1 : (i : Int) ∈ l.take c
  · rw [decide_eq_false (fun h2 => h2 h1), decide_eq_false (fun h2 => hdis.2.2 _ h1 _ h2 rfl)]
  · rw [decide_eq_true h1]
    rcases List.mem_append.1 hmem with h2 | h2
    · exact absurd h2 h1
    · rw [decide_eq_true h2]
theorem lsc_le (x : Int) (L : List Int) : lsc x L ≤ L.length := by
  induction L with
  | nil => exact Nat.le_refl _
  | cons a t ih => show (if a < x then 1 else 0) + lsc x t ≤ t.length + 1; split <;> omega
theorem lft_lsc {l : List Int} (h : vo l = true) {c m : Nat} (hc : c < l.length) (hm : l.getD c 0 = (m : Int)) : cnt (l.drop c) m = lsc (m : Int) (l.drop (c + 1)) := by
  have hdn : (l.drop c).Nodup := List.Sublist.nodup (List.drop_sublist _ _) (vo_facts h).2.2
  have hd0 : ∀ x ∈ l.drop c, 0 ≤ x := fun x hx' => ((vo_facts h).2.1 x (List.mem_of_mem_drop hx')).1
  rw [cnt_lsc hdn hd0, drop_head hc, hm]
  show (if (m : Int) < m then 1 else 0) + _ = _
  rw [if_neg (Int.lt_irrefl _), Nat.zero_add]
theorem bfr_plc {l : List Int} (h : vo l = true) {c : Nat} (hc : c < l.length) : plc (mems (lft l c)) (l.getD c 0) = (bfr l c : Int) ∧ bfr l c = lsc (l.getD c 0) (l.drop (c + 1)) ∧ bfr l c < l.length - c := by
  obtain ⟨m, hm, hml⟩ := vo_at h hc
  have h12 := (vo_facts h).1.2
  have hm20 : m < 20 := by omega
  have hp : plc (mems (lft l c)) (m : Int) = ((filK (lft l c).testBit m).length : Int) := plc_filK (lft_in h hc hm) 20 hm20
  rw [lft_cnt h (Nat.le_of_lt hc) (Nat.le_of_lt hml), lft_lsc h hc hm] at hp
  have hv : bfr l c = lsc (m : Int) (l.drop (c + 1)) := by unfold bfr; rw [hm, hp, Int.toNat_natCast]
  have h3 := lsc_le (m : Int) (l.drop (c + 1))
  rw [List.length_drop, ← hv] at h3
  refine ⟨by rw [hm, hp, hv], by rw [hv, hm], ?_⟩
  clear hp hv
  omega
theorem fac_succ (n : Nat) : fac (n + 1) = (n + 1) * fac n := rfl
theorem rk_bd {l : List Int} (h : vo l = true) : ∀ c, c ≤ l.length → rkI l c + fac (l.length - c) ≤ fac l.length := by
  intro c
  induction c with
  | zero => intro _; simp [rkI]
  | succ c ih =>
    intro hc
    have h1 := ih (by omega)
    have h2 := (bfr_plc h (show c < l.length by omega)).2.2
    have e : l.length - c = (l.length - 1 - c) + 1 := by omega
    rw [e, fac_succ] at h1
    show rkI l c + bfr l c * fac (l.length - 1 - c) + fac (l.length - (c + 1)) ≤ _
    rw [show l.length - (c + 1) = l.length - 1 - c by omega]
    have h4 : (bfr l c + 1) * fac (l.length - 1 - c) ≤ (l.length - 1 - c + 1) * fac (l.length - 1 - c) := Nat.mul_le_mul_right _ (by omega)
    rw [Nat.add_mul, Nat.one_mul] at h4
    omega
theorem hor_rk {l : List Int} : ∀ c, c ≤ l.length → hor l c * fac (l.length - c) = rkI l c := by
  intro c
  induction c with
  | zero => intro _; simp [hor, rkI]
  | succ c ih =>
    intro hc
    have h1 := ih (by omega)
    have e : l.length - c = (l.length - 1 - c) + 1 := by omega
    rw [e, fac_succ] at h1
    show (hor l c * (l.length - c) + bfr l c) * fac (l.length - (c + 1)) = rkI l c + bfr l c * fac (l.length - 1 - c)
    rw [show l.length - (c + 1) = l.length - 1 - c by omega, Nat.add_mul, ← h1, e, Nat.mul_assoc]
theorem hor_full (l : List Int) : hor l l.length = rkI l l.length := by
  have := hor_rk (l := l) l.length (Nat.le_refl _)
  rwa [Nat.sub_self, show fac 0 = 1 from rfl, Nat.mul_one] at this
theorem hor_le {l : List Int} (h : vo l = true) (c : Nat) (hc : c ≤ l.length) : hor l c ≤ fac l.length := by
  have h1 := hor_rk (l := l) c hc
  have h2 := rk_bd h c hc
  have h3 := fac_pos (l.length - c)
  have h4 : hor l c * 1 ≤ hor l c * fac (l.length - c) := Nat.mul_le_mul_left _ h3
  omega
def rOk (l : List Int) : Prop := vo l = true ∧ l.length ≤ 8
instance (l : List Int) : Decidable (rOk l) := by unfold rOk; infer_instance
def rnk (l : List Int) : Int := if rOk l then (rkI l l.length : Int) else -1
theorem rnk_yes {l : List Int} (h : rOk l) : rnk l = (rkI l l.length : Int) := if_pos h
theorem rnk_no {l : List Int} (h : ¬ rOk l) : rnk l = -1 := if_neg h
end Go.Proofs.Ytgmhodmgbhpdaad
