/- Chapter 2: least coalitions and vetoes, in plain numbers. -/
import Derived.Test.YtjdfdikifiljjabPureB
import Derived.Test.YtjdfdikifiljjabLeast
namespace Go.Proofs.Ytjdfdikifiljjab
open Go.ChangeShapes Go.WideShapes Go.ChangeAt Go.RowKit Go.Joins Go.Sort
set_option linter.unusedVariables false

/-- a set within another one -/
def sub (t s : Nat) : Prop := ∀ i, t.testBit i = true → s.testBit i = true
theorem sub_refl (s : Nat) : sub s s := fun _ h => h
theorem sub_trans {a b c : Nat} (h : sub a b) (k : sub b c) : sub a c := fun i hi => k i (h i hi)
theorem minus_at {s i : Nat} (h : s.testBit i = true) (j : Nat) : s.testBit j = (decide (j = i) || (minus s i).testBit j) := by
  have e := minus_plus h
  conv => lhs; rw [← e, Nat.add_comm]
  exact add_bit i (minus s i) j (minus_bit h)
theorem minus_sub {s i : Nat} (h : s.testBit i = true) : sub (minus s i) s := fun j hj => by rw [minus_at h, hj]; simp
theorem sub_minus {t s i : Nat} (h : s.testBit i = true) (hs : sub t s) (ht : t.testBit i = false) : sub t (minus s i) := fun j hj => by
  have h1 := hs j hj
  rw [minus_at h] at h1
  by_cases e : j = i
  · subst e; rw [ht] at hj; cases hj
  · rw [decide_eq_false e, Bool.false_or] at h1; exact h1
theorem wtK_sub (l : List Int) (hx : ∀ x ∈ l, 0 ≤ x ∧ x ≤ 100) {t s : Nat} (h : sub t s) : ∀ k, k ≤ l.length → wtK l t k ≤ wtK l s k := by
  intro k
  induction k with
  | zero => intro _; exact Int.le_refl _
  | succ k ih =>
    intro hk
    have h1 := ih (by omega)
    have h2 := hx _ (getD_mem (l := l) (k := k) (by omega))
    have h3 := h k
    unfold wtK
    generalize l.getD k 0 = z at h2
    cases ht : t.testBit k with
    | true => rw [h3 ht, if_pos rfl]; omega
    | false =>
      rw [if_neg (by simp)]
      split <;> omega
theorem wt_sub {l : List Int} (hx : ∀ x ∈ l, 0 ≤ x ∧ x ≤ 100) {t s : Nat} (h : sub t s) : wt l t ≤ wt l s := wtK_sub l hx h _ (Nat.le_refl _)
theorem setN_mems {s : Nat} (h : s < 2 ^ 20) : setN (mems s) = s := by
  apply Nat.eq_of_testBit_eq
  intro k
  unfold mems
  rw [filK_bit]
  by_cases hk : k < 20
  · rw [decide_eq_true hk, Bool.true_and]
  · rw [decide_eq_false hk, Bool.false_and]
    exact (Nat.testBit_lt_two_pow (Nat.lt_of_lt_of_le h (pow_le (by omega)))).symm
theorem lt20 {s n : Nat} (h : s < 2 ^ n) (hn : n ≤ 8) : s < 2 ^ 20 := Nat.lt_of_lt_of_le h (pow_le (by omega))
theorem mems_mem {s : Nat} (h : s < 2 ^ 20) {x : Int} : x ∈ mems s ↔ ∃ i : Nat, s.testBit i = true ∧ x = i := by
  unfold mems
  rw [filK_mem]
  constructor
  · rintro ⟨i, _, h2, h3⟩; exact ⟨i, h2, h3⟩
  · rintro ⟨i, h2, h3⟩
    refine ⟨i, ?_, h2, h3⟩
    by_cases hi : i < 20
    · exact hi
    · rw [Nat.testBit_lt_two_pow (Nat.lt_of_lt_of_le h (pow_le (show 20 ≤ i by omega)))] at h2; cases h2
theorem mems_vm {s n : Nat} (h : s < 2 ^ n) (hn : n ≤ 8) : vmB (mems s) n = true := by
  rw [mems_at h (by omega)]; exact filK_vm _ _
theorem bit_lt {s n i : Nat} (h : s < 2 ^ n) (hi : s.testBit i = true) : i < n := by
  by_cases e : i < n
  · exact e
  · rw [Nat.testBit_lt_two_pow (Nat.lt_of_lt_of_le h (pow_le (by omega)))] at hi; cases hi
/-- whoever wins has a least coalition -/
theorem least_ex {l : List Int} {need : Int} : ∀ s, s < 2 ^ l.length → need ≤ wt l s → ∃ t, sub t s ∧ t ≤ s ∧ leastB l need t = true := by
  intro s
  induction s using Nat.strongRecOn with
  | ind s ih =>
    intro hs hw
    by_cases h : leastB l need s = true
    · exact ⟨s, sub_refl s, Nat.le_refl _, h⟩
    · have : ¬ ∀ i, i < l.length → s.testBit i = true → wt l s - l.getD i 0 < need := fun k => h (leastB_iff.2 ⟨hw, k⟩)
      simp only [Classical.not_forall] at this
      obtain ⟨i, hi, hb, hn⟩ := this
      have hlt : minus s i < s := by
        have := minus_plus hb; have := Nat.two_pow_pos i; omega
      obtain ⟨t, t1, t2, t3⟩ := ih (minus s i) hlt (by omega) (by rw [wt_minus hb hi]; omega)
      exact ⟨t, sub_trans t1 (minus_sub hb), by omega, t3⟩
theorem least_two {l : List Int} {need : Int} (hx : ∀ x ∈ l, 0 ≤ x ∧ x ≤ 100) {t s : Nat} (ht : leastB l need t = true) (hs : leastB l need s = true) (h : sub t s) (hs2 : s < 2 ^ l.length) : t = s := by
  apply Nat.eq_of_testBit_eq
  intro i
  cases hb : s.testBit i with
  | false =>
    rw [← Bool.not_eq_true]; intro k; rw [h i k] at hb; cases hb
  | true =>
    by_cases k : t.testBit i = true
    · exact k
    · rw [Bool.not_eq_true] at k
      have hi := bit_lt hs2 hb
      have h1 := wt_sub hx (sub_minus hb h k)
      rw [wt_minus hb hi] at h1
      have h2 := (leastB_iff.1 hs).2 i hi hb
      have h3 := (leastB_iff.1 ht).1
      omega
theorem lcK_mem {l : List Int} {need : Int} {c : List Int} : ∀ S, c ∈ lcK l need S ↔ ∃ s, s < S ∧ leastB l need s = true ∧ c = mems s := by
  intro S
  induction S with
  | zero =>
    rw [lcK_nil]
    constructor
    · intro h; cases h
    · rintro ⟨s, h, _⟩; exact absurd h (Nat.not_lt_zero _)
  | succ S ih =>
    by_cases h : leastB l need S = true
    · rw [← lcK_yes h, List.mem_append, ih, List.mem_singleton]
      constructor
      · intro hc
        rcases hc with hc | hc
        · obtain ⟨s, h1, h2, h3⟩ := hc
          exact ⟨s, Nat.lt_succ_of_lt h1, h2, h3⟩
        · exact ⟨S, Nat.lt_succ_self S, h, hc⟩
      · intro hc
        obtain ⟨s, h1, h2, h3⟩ := hc
        by_cases e : s = S
        · rw [e] at h3; exact .inr h3
        · exact .inl ⟨s, by omega, h2, h3⟩
    · rw [Bool.not_eq_true] at h
      rw [← lcK_no h, ih]
      constructor
      · intro hc
        obtain ⟨s, h1, h2, h3⟩ := hc
        exact ⟨s, Nat.lt_succ_of_lt h1, h2, h3⟩
      · intro hc
        obtain ⟨s, h1, h2, h3⟩ := hc
        by_cases e : s = S
        · rw [e, h] at h2; cases h2
        · exact ⟨s, by omega, h2, h3⟩
theorem lcL_mem {l : List Int} {need : Int} (h : sb l need = true) {c : List Int} : c ∈ lcL l need ↔ ∃ s, s < 2 ^ l.length ∧ leastB l need s = true ∧ c = mems s := by
  unfold lcL; rw [if_pos h]; exact lcK_mem _
theorem lcK_sorted (l : List Int) (need : Int) : ∀ S, S ≤ 2 ^ 20 → (lcK l need S).Pairwise fun a b => setN a < setN b := by
  intro S
  induction S with
  | zero => intro _; rw [lcK_nil]; exact List.Pairwise.nil
  | succ S ih =>
    intro hS
    by_cases h : leastB l need S = true
    · rw [← lcK_yes h, List.pairwise_append]
      refine ⟨ih (Nat.le_of_succ_le hS), by simp, fun a ha b hb => ?_⟩
      rw [List.mem_singleton] at hb
      obtain ⟨s, h1, _, hc⟩ := (lcK_mem S).1 ha
      rw [hb, hc, setN_mems (Nat.lt_of_lt_of_le h1 (Nat.le_of_succ_le hS)), setN_mems hS]; exact h1
    · rw [Bool.not_eq_true] at h
      rw [← lcK_no h]; exact ih (Nat.le_of_succ_le hS)

/-- members win exactly if a least coalition is among them -/
theorem lc_all {l : List Int} {need : Int} {m : List Int} (h : sb l need = true) (hm : vmB m l.length = true) : winsB l need m = decide (∃ c ∈ lcL l need, ∀ x ∈ c, x ∈ m) := by
  obtain ⟨hv, h8⟩ := sb_iff.1 h
  have hx := (vb_iff.1 hv).2.2.1
  obtain ⟨v1, v2⟩ := vmB_iff.1 hm
  have hb := setN_bit m (fun y hy => (v1 y hy).1) v2
  rw [Bool.eq_iff_iff, decide_eq_true_eq]
  constructor
  · intro hw
    obtain ⟨_, _, h3⟩ := winsB_iff.1 hw
    obtain ⟨t, t1, t2, t3⟩ := least_ex (setN m) (setN_lt hm) h3
    have ht : t < 2 ^ l.length := Nat.lt_of_le_of_lt t2 (setN_lt hm)
    refine ⟨mems t, (lcL_mem h).2 ⟨t, ht, t3, rfl⟩, fun x hxx => ?_⟩
    obtain ⟨i, hi, hxi⟩ := (mems_mem (lt20 ht h8)).1 hxx
    have := t1 i hi
    rw [hb] at this
    rw [hxi]
    exact of_decide_eq_true this
  · rintro ⟨c, hc, hcm⟩
    obtain ⟨t, ht, t3, hcm2⟩ := (lcL_mem h).1 hc
    rw [hcm2] at hcm
    refine winsB_iff.2 ⟨hv, hm, Int.le_trans (leastB_iff.1 t3).1 (wt_sub hx fun i hi => ?_)⟩
    rw [hb]
    exact decide_eq_true (hcm _ ((mems_mem (lt20 ht h8)).2 ⟨i, hi, rfl⟩))

/-- vetoes -/
theorem wt_one {l : List Int} {i : Nat} (hi : i < l.length) : wt l (2 ^ i) = l.getD i 0 := by
  have := wt_add l 0 i (Nat.zero_testBit i) hi
  rw [Nat.zero_add] at this
  rw [this]
  have z : wt l 0 = 0 := wtK_zero l _
  omega
theorem wt_but {l : List Int} {i : Nat} (hi : i < l.length) : wt l (setN (filK (fun j => decide (j ≠ i)) l.length)) = tot l - l.getD i 0 := by
  have := wtK_not l (2 ^ i) (setN (filK (fun j => decide (j ≠ i)) l.length)) l.length (Nat.le_refl _) fun j hj => by
    rw [filK_bit, decide_eq_true hj, Bool.true_and, Nat.testBit_two_pow]
    by_cases e : j = i
    · subst e; simp
    · simp [e, Ne.symm e]
  rw [List.take_length] at this
  have h1 := wt_one hi
  unfold wt at h1 ⊢
  omega
theorem vet_mem {l : List Int} {need : Int} (h : vb l need = true) {i : Nat} (hi : i < l.length) : (i : Int) ∈ vetL l need ↔ tot l - need < l.getD i 0 := by
  unfold vetL
  rw [if_pos h, filK_mem]
  constructor
  · rintro ⟨j, _, h2, h3⟩
    obtain rfl : j = i := by omega
    exact of_decide_eq_true h2
  · intro h2; exact ⟨i, hi, decide_eq_true h2, rfl⟩
theorem vet_all {l : List Int} {need : Int} (h : sb l need = true) {i : Nat} (hi : i < l.length) : decide ((i : Int) ∈ vetL l need) = decide (∀ c ∈ lcL l need, (i : Int) ∈ c) := by
  obtain ⟨hv, h8⟩ := sb_iff.1 h
  have hx := (vb_iff.1 hv).2.2.1
  rw [Bool.eq_iff_iff, decide_eq_true_eq, decide_eq_true_eq, vet_mem hv hi]
  constructor
  · intro h2 c hc
    obtain ⟨t, ht, t3, hcm2⟩ := (lcL_mem h).1 hc
    rw [hcm2]
    refine (mems_mem (lt20 ht h8)).2 ⟨i, ?_, rfl⟩
    by_cases hb : t.testBit i = true
    · exact hb
    · rw [Bool.not_eq_true] at hb
      have hs : sub t (setN (filK (fun j => decide (j ≠ i)) l.length)) := fun j hj => by
        rw [filK_bit, decide_eq_true (bit_lt ht hj), Bool.true_and, decide_eq_true_eq]
        rintro rfl
        rw [hb] at hj; cases hj
      have h1 := wt_sub hx hs
      rw [wt_but hi] at h1
      have := (leastB_iff.1 t3).1
      omega
  · intro h2
    refine Decidable.byContradiction fun h3 => ?_
    have hvm : vmB (filK (fun j => decide (j ≠ i)) l.length) l.length = true := filK_vm _ _
    obtain ⟨t, t1, t2, t3⟩ := least_ex (need := need) (setN (filK (fun j => decide (j ≠ i)) l.length)) (setN_lt hvm) (by rw [wt_but hi]; omega)
    have ht : t < 2 ^ l.length := Nat.lt_of_le_of_lt t2 (setN_lt hvm)
    have h4 := h2 (mems t) ((lcL_mem h).2 ⟨t, ht, t3, rfl⟩)
    obtain ⟨j, hj, e⟩ := (mems_mem (lt20 ht h8)).1 h4
    obtain rfl : i = j := by omega
    have h5 := t1 i hj
    rw [filK_bit] at h5
    simp at h5
theorem vet_dual {l : List Int} {need : Int} (h : vb l need = true) {i : Nat} (hi : i < l.length) : decide ((i : Int) ∈ vetL l need) = winsB l (tot l - need + 1) [(i : Int)] := by
  have hvm : vmB [(i : Int)] l.length = true := vmB_iff.2 ⟨fun x hx => by rw [List.mem_singleton] at hx; omega, by simp⟩
  have hs : setN [(i : Int)] = 2 ^ i := by simp [setN]
  rw [Bool.eq_iff_iff, decide_eq_true_eq, vet_mem h hi, winsB_iff, hs, wt_one hi]
  exact ⟨fun k => ⟨vb_dual h, hvm, by omega⟩, fun k => by omega⟩
end Go.Proofs.Ytjdfdikifiljjab
