/- Chapter 2: least coalitions are least, in plain numbers. -/
import Derived.Test.YtjdfdikifiljjabPureC
namespace Go.Proofs.Ytjdfdikifiljjab
open Go.ChangeShapes Go.WideShapes Go.ChangeAt Go.RowKit Go.Joins Go.Sort
set_option linter.unusedVariables false

/-- a list without one of its numbers -/
def wo (c : List Int) (k : Nat) : List Int := c.take k ++ c.drop (k + 1)
theorem wo_len (c : List Int) (k : Nat) : (wo c k).length ≤ c.length := by unfold wo; rw [List.length_append, List.length_take, List.length_drop]; omega
theorem setN_wo {c : List Int} {k : Nat} (hk : k < c.length) : setN c = setN (wo c k) + 2 ^ (c.getD k 0).toNat := by
  have e : c = c.take k ++ (c.getD k 0 :: c.drop (k + 1)) := by
    have h1 := List.take_append_drop k c
    rw [List.drop_eq_getElem_cons hk] at h1
    rw [List.getD_eq_getElem?_getD, List.getElem?_eq_getElem hk]
    exact h1.symm
  have h2 : setN c = setN (c.take k) + setN (c.getD k 0 :: c.drop (k + 1)) := by
    conv => lhs; rw [e]
    exact setN_append _ _
  unfold wo
  rw [h2, setN_cons, setN_append]; omega
theorem lc_wins {l : List Int} {need : Int} (h : sb l need = true) {c : List Int} (hc : c ∈ lcL l need) : winsB l need c = true := by
  obtain ⟨hv, h8⟩ := sb_iff.1 h
  obtain ⟨t, ht, t3, e⟩ := (lcL_mem h).1 hc
  rw [e]
  exact winsB_iff.2 ⟨hv, mems_vm ht h8, by rw [setN_mems (lt20 ht h8)]; exact (leastB_iff.1 t3).1⟩
theorem lc_without {l : List Int} {need : Int} (h : sb l need = true) {c : List Int} (hc : c ∈ lcL l need) {k : Nat} (hk : k < c.length) : winsB l need (wo c k) = false := by
  obtain ⟨hv, h8⟩ := sb_iff.1 h
  obtain ⟨t, ht, t3, e⟩ := (lcL_mem h).1 hc
  have hm : c.getD k 0 ∈ mems t := by rw [← e]; exact getD_mem hk
  obtain ⟨i, hi, hx⟩ := (mems_mem (lt20 ht h8)).1 hm
  have hs := setN_wo hk
  rw [hx, Int.toNat_natCast] at hs
  have hs2 : setN c = t := by rw [e]; exact setN_mems (lt20 ht h8)
  have hmi : setN (wo c k) = minus t i := by have := minus_plus hi; omega
  rw [← Bool.not_eq_true]
  intro hw
  have h3 := (winsB_iff.1 hw).2.2
  have hin := bit_lt ht hi
  rw [hmi, wt_minus hi hin] at h3
  have := (leastB_iff.1 t3).2 i hin hi
  omega
theorem lc_apart {l : List Int} {need : Int} (h : sb l need = true) {i k : Nat} (hi : i < (lcL l need).length) (hk : k < i) : decide (∀ x ∈ (lcL l need).getD i [], x ∈ (lcL l need).getD k []) = false ∧ decide (∀ x ∈ (lcL l need).getD k [], x ∈ (lcL l need).getD i []) = false := by
  obtain ⟨hv, h8⟩ := sb_iff.1 h
  have hx := (vb_iff.1 hv).2.2.1
  have hsort : (lcL l need).Pairwise fun a b => setN a < setN b := by
    unfold lcL; rw [if_pos h]; exact lcK_sorted l need _ (pow_le (by omega))
  have hlt : setN ((lcL l need).getD k []) < setN ((lcL l need).getD i []) := by
    rw [List.getD_eq_getElem?_getD, List.getD_eq_getElem?_getD, List.getElem?_eq_getElem hi, List.getElem?_eq_getElem (show k < (lcL l need).length by omega)]
    exact List.pairwise_iff_getElem.1 hsort k i (by omega) hi hk
  obtain ⟨s, hs, s3, es⟩ := (lcL_mem h).1 (getD_memL hi)
  obtain ⟨t, ht, t3, et⟩ := (lcL_mem h).1 (getD_memL (show k < (lcL l need).length by omega))
  rw [es, et] at hlt ⊢
  rw [setN_mems (lt20 hs h8), setN_mems (lt20 ht h8)] at hlt
  have key : ∀ a b, a < 2 ^ l.length → b < 2 ^ l.length → (∀ x ∈ mems a, x ∈ mems b) → sub a b := by
    intro a b ha hb hab j hj
    obtain ⟨q, hq, e⟩ := (mems_mem (lt20 hb h8)).1 (hab (j : Int) ((mems_mem (lt20 ha h8)).2 ⟨j, hj, rfl⟩))
    have : j = q := by omega
    rw [this]; exact hq
  constructor
  · refine decide_eq_false fun hw => ?_
    have := least_two hx s3 t3 (key s t hs ht hw) ht
    omega
  · refine decide_eq_false fun hw => ?_
    have := least_two hx t3 s3 (key t s ht hs hw) hs
    omega
end Go.Proofs.Ytjdfdikifiljjab
