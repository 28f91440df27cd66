/- Chapter 2: dummies, in plain numbers. -/
import Derived.Test.YtjdfdikifiljjabPureC
import Derived.Test.YtjdfdikifiljjabPivots
namespace Go.Proofs.Ytjdfdikifiljjab
open Go.ChangeShapes Go.WideShapes Go.ChangeAt Go.RowKit Go.Joins Go.Sort
set_option linter.unusedVariables false

theorem acc_nn (f : Nat → Nat → Int) (j : Nat) : ∀ S, (∀ s, s < S → 0 ≤ f s j) → 0 ≤ acc f j S := by
  intro S
  induction S with
  | zero => intro _; exact Int.le_refl _
  | succ S ih =>
    intro h
    have h1 := ih fun s hs => h s (by omega)
    have h2 := h S (by omega)
    show 0 ≤ acc f j S + f S j
    omega
theorem acc_zero_iff (f : Nat → Nat → Int) (j : Nat) : ∀ S, (∀ s, s < S → 0 ≤ f s j) → (acc f j S = 0 ↔ ∀ s, s < S → f s j = 0) := by
  intro S
  induction S with
  | zero => intro _; exact ⟨fun _ s hs => absurd hs (Nat.not_lt_zero _), fun _ => rfl⟩
  | succ S ih =>
    intro h
    have h1 := ih fun s hs => h s (by omega)
    have h2 := h S (by omega)
    have h3 := acc_nn f j S fun s hs => h s (by omega)
    have e : acc f j (S + 1) = acc f j S + f S j := rfl
    rw [e]
    constructor
    · intro h4 s hs
      by_cases es : s = S
      · subst es; omega
      · exact h1.1 (by omega) s (by omega)
    · intro h4
      have := h1.2 fun s hs => h4 s (by omega)
      have := h4 S (by omega)
      omega
theorem fI_pos (x : Int) : 0 < fI x := by
  unfold fI
  have := fac_pos x.toNat
  omega
theorem pvF_nn (l : List Int) (need : Int) (s j : Nat) : 0 ≤ pvF l need s j := by
  unfold pvF
  split
  · exact Int.le_of_lt (Int.mul_pos (fI_pos _) (fI_pos _))
  · exact Int.le_refl _
theorem pvF_zero (l : List Int) (need : Int) (s j : Nat) : pvF l need s j = 0 ↔ swF l need s j = 0 := by
  cases h : dec l need s j with
  | true =>
    rw [pvF_yes h, swF_yes h]
    have := Int.mul_pos (fI_pos ((mems s).length : Int)) (fI_pos ((l.length : Int) - 1 - (mems s).length))
    omega
  | false => rw [pvF_no h, swF_no h]
theorem piv_zero {l : List Int} {need : Int} (h : sb l need = true) {i : Nat} (hi : i < l.length) : (pvL l need).getD i 0 = 0 ↔ (swL l need).getD i 0 = 0 := by
  unfold pvL swL
  rw [if_pos h, if_pos h, accL_at _ _ _ _ hi, accL_at _ _ _ _ hi, acc_zero_iff _ _ _ fun s _ => pvF_nn l need s i, acc_zero_iff _ _ _ fun s _ => (swF_bd l need s i).1]
  constructor
  · intro k s hs; exact (pvF_zero l need s i).1 (k s hs)
  · intro k s hs; exact (pvF_zero l need s i).2 (k s hs)
theorem pvL_len2 {l : List Int} {need : Int} (h : sb l need = true) : (pvL l need).length = l.length := by unfold pvL; rw [if_pos h, accL_len]
theorem dum_mem {l : List Int} {need : Int} (h : sb l need = true) {i : Nat} (hi : i < l.length) : (i : Int) ∈ dumL l need ↔ (swL l need).getD i 0 = 0 := by
  unfold dumL
  rw [filK_mem]
  have hl : (swL l need).length = l.length := by unfold swL; rw [if_pos h, accL_len]
  constructor
  · rintro ⟨j, _, h2, h3⟩
    obtain rfl : j = i := by omega
    exact of_decide_eq_true h2
  · intro h2; exact ⟨i, by omega, decide_eq_true h2, rfl⟩
theorem dum_piv {l : List Int} {need : Int} (h : sb l need = true) {i : Nat} (hi : i < l.length) : ((pvL l need).getD i 0 == 0) = decide ((i : Int) ∈ dumL l need) := by
  rw [Bool.eq_iff_iff, beq_iff_eq, decide_eq_true_eq, dum_mem h hi, piv_zero h hi]
/-- whoever decides is in a least coalition, and nobody else -/
theorem dum_found {l : List Int} {need : Int} (h : sb l need = true) {i : Nat} (hi : i < l.length) : decide (∃ c ∈ lcL l need, (i : Int) ∈ c) = !decide ((i : Int) ∈ dumL l need) := by
  obtain ⟨hv, h8⟩ := sb_iff.1 h
  have hx := (vb_iff.1 hv).2.2.1
  have hz : (i : Int) ∈ dumL l need ↔ ∀ s, s < 2 ^ l.length → dec l need s i = false := by
    rw [dum_mem h hi]
    unfold swL
    rw [if_pos h, accL_at _ _ _ _ hi, acc_zero_iff _ _ _ fun s _ => (swF_bd l need s i).1]
    constructor
    · intro k s hs
      have := k s hs
      rw [← Bool.not_eq_true]; intro hd
      rw [swF_yes hd] at this; omega
    · intro k s hs; exact swF_no (k s hs)
  rw [Bool.eq_iff_iff, decide_eq_true_eq, Bool.not_eq_true', decide_eq_false_iff_not, hz]
  constructor
  · rintro ⟨c, hc, hic⟩ hall
    obtain ⟨t, ht, t3, hct⟩ := (lcL_mem h).1 hc
    rw [hct] at hic
    obtain ⟨j, hj, e⟩ := (mems_mem (lt20 ht h8)).1 hic
    obtain rfl : i = j := by omega
    have h1 := hall (minus t i) (Nat.lt_of_le_of_lt (Nat.sub_le _ _) ht)
    obtain ⟨a, b⟩ := leastB_iff.1 t3
    have h2 := b i hi hj
    have h3 := wt_minus (l := l) hj hi
    unfold dec winB at h1
    rw [minus_bit hj, minus_plus hj, decide_eq_true a, decide_eq_false (by omega)] at h1
    simp at h1
  · intro hall
    simp only [Classical.not_forall] at hall
    obtain ⟨s, hs, hd⟩ := hall
    rw [Bool.not_eq_false] at hd
    unfold dec at hd
    rw [Bool.and_eq_true, Bool.and_eq_true, Bool.not_eq_true', Bool.not_eq_true'] at hd
    obtain ⟨d1, d2, d3⟩ := hd
    unfold winB at d2 d3
    have d2 := of_decide_eq_false d2
    have d3 := of_decide_eq_true d3
    have hlt : s + 2 ^ i < 2 ^ l.length := by
      apply Nat.lt_pow_two_of_testBit
      intro j hj
      rw [Nat.add_comm, add_bit i s j d1, Nat.testBit_lt_two_pow (Nat.lt_of_lt_of_le hs (pow_le hj)), Bool.or_false]
      exact decide_eq_false (by omega)
    obtain ⟨t, t1, t2, t3⟩ := least_ex (s + 2 ^ i) hlt d3
    have ht : t < 2 ^ l.length := by omega
    refine ⟨mems t, (lcL_mem h).2 ⟨t, ht, t3, rfl⟩, (mems_mem (lt20 ht h8)).2 ⟨i, ?_, rfl⟩⟩
    by_cases hb : t.testBit i = true
    · exact hb
    · rw [Bool.not_eq_true] at hb
      have hs2 : sub t s := fun j hj => by
        have h1 := t1 j hj
        rw [Nat.add_comm, add_bit i s j d1] at h1
        by_cases e : j = i
        · subst e; rw [hb] at hj; cases hj
        · rw [decide_eq_false e, Bool.false_or] at h1; exact h1
      have := wt_sub hx hs2
      have := (leastB_iff.1 t3).1
      omega
theorem filK_asc (p : Nat → Bool) (n : Nat) : ∀ c, c + 1 < (filK p n).length → (filK p n).getD c 0 < (filK p n).getD (c + 1) 0 := by
  have hs : (filK p n).Pairwise fun a b => a < b := by
    induction n with
    | zero => exact List.Pairwise.nil
    | succ n ih =>
      by_cases h : p n = true
      · rw [← filK_yes h, List.pairwise_append]
        refine ⟨ih, by simp, fun a ha b hb => ?_⟩
        rw [List.mem_singleton] at hb
        obtain ⟨i, hi, _, e⟩ := filK_mem.1 ha
        omega
      · rw [Bool.not_eq_true] at h
        rw [← filK_no h]; exact ih
  intro c hc
  rw [List.getD_eq_getElem?_getD, List.getD_eq_getElem?_getD, List.getElem?_eq_getElem (by omega), List.getElem?_eq_getElem hc]
  exact List.pairwise_iff_getElem.1 hs c (c + 1) (by omega) hc (by omega)
end Go.Proofs.Ytjdfdikifiljjab
