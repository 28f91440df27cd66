/- Chapter 2: points are preferences, in plain numbers. -/
import Derived.Test.YtjdfdikifiljjacLawR1
namespace Go.Proofs.Ytjdfdikifiljjac
open Go.ChangeShapes Go.WideShapes Go.ChangeAt Go.RowKit Go.Joins Go.Sort
set_option linter.unusedVariables false

def sm (h : Nat → Int) : Nat → Int
  | 0 => 0
  | n + 1 => sm h n + h n
theorem sm_succ (h : Nat → Int) (n : Nat) : sm h (n + 1) = sm h n + h n := rfl
theorem sm_eq (h g : Nat → Int) : ∀ n, (∀ i, i < n → h i = g i) → sm h n = sm g n := by
  intro n
  induction n with
  | zero => intro _; rfl
  | succ n ih => intro k; rw [sm_succ, sm_succ, ih fun i hi => k i (by omega), k n (by omega)]
theorem sm_le (h g : Nat → Int) : ∀ n, (∀ i, i < n → h i ≤ g i) → sm h n ≤ sm g n := by
  intro n
  induction n with
  | zero => intro _; exact Int.le_refl _
  | succ n ih => intro k; have h1 := ih fun i hi => k i (by omega); have h2 := k n (by omega); rw [sm_succ, sm_succ]; omega
theorem sm_add (h g : Nat → Int) : ∀ n, sm (fun i => h i + g i) n = sm h n + sm g n := by
  intro n
  induction n with
  | zero => rfl
  | succ n ih => rw [sm_succ, sm_succ, sm_succ, ih]; omega
theorem sm_zero : ∀ n, sm (fun _ => 0) n = 0 := by
  intro n
  induction n with
  | zero => rfl
  | succ n ih => rw [sm_succ, ih]; rfl
theorem sm_const (c : Int) : ∀ n : Nat, sm (fun _ => c) n = n * c := by
  intro n
  induction n with
  | zero => simp [sm]
  | succ n ih => rw [sm_succ, ih, Int.natCast_add, Int.add_mul]; simp
theorem sm_swap (F : Nat → Nat → Int) (n : Nat) : ∀ N, sm (fun i => sm (fun s => F i s) N) n = sm (fun s => sm (fun i => F i s) n) N := by
  intro N
  induction N with
  | zero => exact sm_zero n
  | succ N ih =>
    rw [sm_succ, ← ih, ← sm_add]
    exact sm_eq _ _ n fun i _ => rfl
theorem acc_sm (f : Nat → Nat → Int) (j : Nat) : ∀ S, acc f j S = sm (fun s => f s j) S := by
  intro S
  induction S with
  | zero => rfl
  | succ S ih => rw [sm_succ, ← ih]; rfl
theorem tot_accL (f : Nat → Nat → Int) (N : Nat) : ∀ n, tot (accL f n N) = sm (fun i => acc f i N) n := by
  intro n
  induction n with
  | zero => rfl
  | succ n ih =>
    have e : accL f (n + 1) N = accL f n N ++ [acc f n N] := by unfold accL; rw [List.range_succ, List.map_append]; rfl
    rw [e, tot_append, ih, sm_succ, tot_cons, tot_nil]; omega
theorem sm_list (h : Nat → Int) : ∀ n, sm h n = ((List.range n).map h).sum := by
  intro n
  induction n with
  | zero => rfl
  | succ n ih => rw [List.range_succ, List.map_append, List.sum_append, ← ih, sm_succ]; simp
theorem perm_sum {a b : List Int} (h : a.Perm b) : a.sum = b.sum := by
  induction h with
  | nil => rfl
  | cons x _ ih => rw [List.sum_cons, List.sum_cons, ih]
  | swap x y l => rw [List.sum_cons, List.sum_cons, List.sum_cons, List.sum_cons]; omega
  | trans _ _ h1 h2 => exact h1.trans h2
theorem sm_perm (h : Nat → Int) (N : Nat) (t : Nat → Nat) (h1 : ∀ s, s < N → t s < N) (h2 : ∀ a b, a < N → b < N → t a = t b → a = b) (h3 : ∀ p, p < N → ∃ s, s < N ∧ t s = p) : sm (fun s => h (t s)) N = sm h N := by
  rw [sm_list, sm_list]
  have hp : ((List.range N).map t).Perm (List.range N) := by
    refine (List.perm_ext_iff_of_nodup ?_ List.nodup_range).2 fun a => ?_
    · unfold List.Nodup
      rw [List.pairwise_map]
      refine List.Pairwise.imp_of_mem (fun {a b} ha hb hab e => hab ?_) (List.nodup_range (n := N))
      rw [List.mem_range] at ha hb
      exact h2 a b ha hb e
    · rw [List.mem_map, List.mem_range]
      constructor
      · rintro ⟨s, hs, rfl⟩
        exact h1 s (List.mem_range.1 hs)
      · intro ha
        obtain ⟨s, hs, e⟩ := h3 a ha
        exact ⟨s, List.mem_range.2 hs, e⟩
  have := perm_sum (hp.map h)
  rw [List.map_map] at this
  exact this
theorem sm_after (p : Nat) : ∀ n, sm (fun q => if p < q then 1 else 0) n = if p < n then (n : Int) - 1 - p else 0 := by
  intro n
  induction n with
  | zero => rw [if_neg (by omega)]; rfl
  | succ n ih =>
    rw [sm_succ, ih]
    by_cases h : p < n
    · rw [if_pos h, if_pos h, if_pos (by omega)]; omega
    · rw [if_neg h, if_neg h]
      by_cases h2 : p < n + 1
      · rw [if_pos h2]; omega
      · rw [if_neg h2]; omega
theorem sm_but (a : Nat) (c : Int) : ∀ n, sm (fun b => if b = a then 0 else c) n = if a < n then ((n : Int) - 1) * c else (n : Int) * c := by
  intro n
  induction n with
  | zero => rw [if_neg (by omega)]; simp [sm]
  | succ n ih =>
    rw [sm_succ, ih]
    by_cases h : a < n
    · rw [if_pos h, if_neg (by omega), if_pos (by omega)]
      have e : ((n + 1 : Nat) : Int) - 1 = (n : Int) - 1 + 1 := by omega
      rw [e, Int.add_mul]; omega
    · rw [if_neg h]
      by_cases h2 : n = a
      · rw [if_pos h2, if_pos (by omega)]
        have e : ((n + 1 : Nat) : Int) - 1 = (n : Int) := by omega
        rw [e]; omega
      · rw [if_neg h2, if_neg (by omega), Int.natCast_add, Int.add_mul]; simp

/-- what one list gives to a choice: how many choices it has behind it -/
theorem row_after {rk : List (List Int)} (h : vr rk = true) {S : Nat} (hS : S < rk.length) {a : Nat} (ha : a < (rk.getD 0 []).length) :
    ptF rk (rk.getD 0 []).length S a = sm (fun b => if bef (rk.getD S []) (a : Int) (b : Int) = true then 1 else 0) (rk.getD 0 []).length := by
  have hp := fun (j : Nat) (hj : j < (rk.getD 0 []).length) => vr_plc h hS hj
  have hl := (vr_row h hS).1
  obtain ⟨pa, hpa⟩ := Int.eq_ofNat_of_zero_le (hp a ha).1
  have hpa2 := (hp a ha).2
  rw [sm_eq (fun b => if bef (rk.getD S []) (a : Int) (b : Int) = true then 1 else 0) (fun b => (fun q => if pa < q then (1 : Int) else 0) ((plc (rk.getD S []) (b : Int)).toNat)) _ fun b hb => ?_]
  · rw [sm_perm (fun q => if pa < q then (1 : Int) else 0) (rk.getD 0 []).length (fun b => (plc (rk.getD S []) (b : Int)).toNat) (fun b hb => by have := hp b hb; omega) (fun x y hx hy e => ?_) (fun q hq => ?_), sm_after, if_pos (by omega)]
    · unfold ptF; rw [hpa]
    · have e1 := hp x hx
      have e2 := hp y hy
      by_cases hxy : x = y
      · exact hxy
      · exact absurd (show plc (rk.getD S []) (x : Int) = plc (rk.getD S []) (y : Int) by omega) (plc_ne (vr_mem h hS (by omega) (by omega)) (vr_mem h hS (by omega) (by omega)) (by omega))
    · obtain ⟨c, hc, _, hc3⟩ := vr_at h hS hq
      exact ⟨c, hc, by rw [(hc3 c hc).2 rfl]; rfl⟩
  · have e1 := hp b hb
    unfold bef
    by_cases hlt : plc (rk.getD S []) (a : Int) < plc (rk.getD S []) (b : Int)
    · rw [if_pos (decide_eq_true hlt)]
      show (1 : Int) = if pa < (plc (rk.getD S []) (b : Int)).toNat then 1 else 0
      rw [if_pos (by omega)]
    · rw [if_neg (by rw [decide_eq_false hlt]; simp)]
      show (0 : Int) = if pa < (plc (rk.getD S []) (b : Int)).toNat then 1 else 0
      rw [if_neg (by omega)]
theorem btK_sm (rk : List (List Int)) (a b : Int) : ∀ k, (btK rk a b k : Int) = sm (fun s => if bef (rk.getD s []) a b = true then 1 else 0) k := by
  intro k
  induction k with
  | zero => rfl
  | succ k ih =>
    rw [sm_succ, ← ih]
    by_cases h : bef (rk.getD k []) a b = true
    · rw [btK_yes h, if_pos h]; omega
    · rw [if_neg h]
      rw [Bool.not_eq_true] at h
      rw [btK_no h]; omega
theorem bt_self (rk : List (List Int)) (a : Int) : bt rk a a = 0 := by
  have : ∀ k, btK rk a a k = 0 := by
    intro k
    induction k with
    | zero => rfl
    | succ k ih => rw [btK_no (by unfold bef; exact decide_eq_false (by omega)), ih]
  exact this _
/-- points are preferences -/
theorem pt_sum {rk : List (List Int)} (h : vr rk = true) {a : Nat} (ha : a < (rk.getD 0 []).length) : (ptL rk).getD a 0 = sm (fun b => (bt rk (a : Int) (b : Int) : Int)) (rk.getD 0 []).length := by
  rw [ptL_yes h, accL_at _ _ _ _ ha, acc_sm, sm_eq _ _ _ fun s hs => row_after h hs ha, sm_swap]
  exact sm_eq _ _ _ fun b _ => (btK_sm rk (a : Int) (b : Int) rk.length).symm
theorem pt_total {rk : List (List Int)} (h : vr rk = true) : 2 * tot (ptL rk) = (rk.length : Int) * ((rk.getD 0 []).length : Int) * (((rk.getD 0 []).length : Int) - 1) := by
  have e1 : tot (ptL rk) = sm (fun a => sm (fun b => (bt rk (a : Int) (b : Int) : Int)) (rk.getD 0 []).length) (rk.getD 0 []).length := by
    rw [ptL_yes h, tot_accL]
    refine sm_eq _ _ _ fun a ha => ?_
    have := pt_sum h ha
    rw [ptL_yes h, accL_at _ _ _ _ ha] at this
    exact this
  have e2 := sm_swap (fun a b => (bt rk (a : Int) (b : Int) : Int)) (rk.getD 0 []).length (rk.getD 0 []).length
  have e3 : tot (ptL rk) + tot (ptL rk) = sm (fun a => sm (fun b => if b = a then 0 else (rk.length : Int)) (rk.getD 0 []).length) (rk.getD 0 []).length := by
    conv => lhs; rw [e1]; arg 2; rw [e2]
    rw [← sm_add]
    refine sm_eq _ _ _ fun a ha => ?_
    rw [← sm_add]
    refine sm_eq _ _ _ fun b hb => ?_
    by_cases e : b = a
    · rw [if_pos e, e, bt_self]; rfl
    · rw [if_neg e]
      have := bt_sum h (a := (a : Int)) (b := (b : Int)) ⟨by omega, ⟨by omega, by omega⟩, ⟨by omega, by omega⟩⟩
      omega
  rw [sm_eq _ (fun _ => (((rk.getD 0 []).length : Int) - 1) * (rk.length : Int)) _ fun a ha => by rw [sm_but, if_pos ha], sm_const] at e3
  have e4 : 2 * tot (ptL rk) = tot (ptL rk) + tot (ptL rk) := by omega
  rw [e4, e3, Int.mul_comm (((rk.getD 0 []).length : Int) - 1) (rk.length : Int), ← Int.mul_assoc, Int.mul_comm ((rk.getD 0 []).length : Int) (rk.length : Int)]
/-- who beats all has more than the mean -/
theorem pt_beats {rk : List (List Int)} (h : vr rk = true) {a : Nat} (ha : a < (rk.getD 0 []).length) (hb : ∀ b : Nat, b < (rk.getD 0 []).length → b ≠ a → rk.length < 2 * bt rk (a : Int) (b : Int)) :
    (((rk.getD 0 []).length : Int) - 1) * ((rk.length : Int) + 1) ≤ 2 * (ptL rk).getD a 0 := by
  rw [pt_sum h ha]
  have e : 2 * sm (fun b => (bt rk (a : Int) (b : Int) : Int)) (rk.getD 0 []).length = sm (fun b => (bt rk (a : Int) (b : Int) : Int) + (bt rk (a : Int) (b : Int) : Int)) (rk.getD 0 []).length := by rw [sm_add]; omega
  rw [e]
  have := sm_le (fun b => if b = a then 0 else (rk.length : Int) + 1) (fun b => (bt rk (a : Int) (b : Int) : Int) + (bt rk (a : Int) (b : Int) : Int)) (rk.getD 0 []).length fun b hb2 => by
    by_cases e : b = a
    · rw [if_pos e]; omega
    · rw [if_neg e]; have := hb b hb2 e; omega
  rw [sm_but, if_pos ha] at this
  exact this
theorem pt_less {rk : List (List Int)} (h : vr rk = true) {a : Nat} (ha : a < (rk.getD 0 []).length) (h2 : 2 ≤ (rk.getD 0 []).length) (hb : ∀ b : Nat, b < (rk.getD 0 []).length → b ≠ a → rk.length < 2 * bt rk (a : Int) (b : Int)) :
    ∃ i, i < (rk.getD 0 []).length ∧ (ptL rk).getD i 0 < (ptL rk).getD a 0 := by
  refine Decidable.byContradiction fun hno => ?_
  have hall : ∀ i, i < (rk.getD 0 []).length → (ptL rk).getD a 0 ≤ (ptL rk).getD i 0 := fun i hi => by
    by_cases e : (ptL rk).getD i 0 < (ptL rk).getD a 0
    · exact absurd ⟨i, hi, e⟩ hno
    · omega
  have h1 := pt_beats h ha hb
  have ht := pt_total h
  have htot : tot (ptL rk) = sm (fun i => (ptL rk).getD i 0) (rk.getD 0 []).length := by
    rw [ptL_yes h, tot_accL]
    exact sm_eq _ _ _ fun i hi => (accL_at _ _ _ _ hi).symm
  have hge := sm_le (fun _ => (ptL rk).getD a 0) (fun i => (ptL rk).getD i 0) (rk.getD 0 []).length hall
  rw [sm_const, ← htot] at hge
  obtain ⟨_, _, _, h6, _⟩ := vr_iff.1 h
  generalize (ptL rk).getD a 0 = p at h1 hge
  generalize tot (ptL rk) = T at ht hge
  generalize (rk.length : Int) = L at h1 ht
  generalize (rk.getD 0 []).length = c at h1 ht hge h6 h2
  have hc : c = 2 ∨ c = 3 ∨ c = 4 ∨ c = 5 ∨ c = 6 := by omega
  rcases hc with rfl | rfl | rfl | rfl | rfl <;> simp at h1 ht hge <;> omega
end Go.Proofs.Ytjdfdikifiljjac
