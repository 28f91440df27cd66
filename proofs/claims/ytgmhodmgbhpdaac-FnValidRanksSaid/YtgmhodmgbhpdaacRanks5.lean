/- Chapter 2: the points of the choices: contracts of the program and of the model. -/
import Derived.Test.YtgmhodmgbhpdaacRanks4
import Derived.Test.YtgmhodmgbhpdaacSets2
import Derived.StillTailTactics
namespace Go.Proofs.Ytgmhodmgbhpdaac
open Go.ChangeShapes Go.WideShapes Go.ChangeAt Go.RowKit Go.Joins Go.Sort
set_option linter.unusedVariables false

/-- what one list gives to a choice -/
def ptF (rk : List (List Int)) (ch s j : Nat) : Int := (ch : Int) - 1 - plc (rk.getD s []) (j : Int)
/-- the points after S lists and the first k places of the next one -/
def ptQ (rk : List (List Int)) (ch S k : Nat) : List Int := (List.range ch).map fun j => acc (ptF rk ch) j S + if plc (rk.getD S []) (j : Int) < (k : Int) then ptF rk ch S j else 0
theorem ptQ_len (rk : List (List Int)) (ch S k : Nat) : (ptQ rk ch S k).length = ch := by simp [ptQ]
theorem ptQ_at (rk : List (List Int)) (ch S k j : Nat) (h : j < ch) : (ptQ rk ch S k).getD j 0 = acc (ptF rk ch) j S + if plc (rk.getD S []) (j : Int) < (k : Int) then ptF rk ch S j else 0 := by simp [ptQ, List.getD_eq_getElem?_getD, h]
theorem pt_start (rk : List (List Int)) (ch : Nat) : zeros ch = accL (ptF rk ch) ch 0 :=
  getD_ext (by rw [zeros_len, accL_len]) (fun j hj => by rw [zeros_len] at hj; rw [zeros_at, accL_at _ _ _ _ hj]; rfl)
theorem vr_plc {rk : List (List Int)} (h : vr rk = true) {S : Nat} (hS : S < rk.length) {j : Nat} (hj : j < (rk.getD 0 []).length) : 0 ≤ plc (rk.getD S []) (j : Int) ∧ plc (rk.getD S []) (j : Int) ≤ ((rk.getD 0 []).length : Int) - 1 := by
  have hm := vr_mem h hS (x := (j : Int)) (by omega) (by omega)
  have hl := (vr_row h hS).1
  refine ⟨plc_in hm, ?_⟩
  unfold plc
  rw [if_pos hm]
  have := List.idxOf_lt_length_iff.2 hm
  omega
theorem ptQ_zero {rk : List (List Int)} (h : vr rk = true) {S : Nat} (hS : S < rk.length) : accL (ptF rk (rk.getD 0 []).length) (rk.getD 0 []).length S = ptQ rk (rk.getD 0 []).length S 0 := by
  apply getD_ext (by rw [accL_len, ptQ_len])
  intro j hj
  rw [accL_len] at hj
  have := vr_plc h hS hj
  rw [accL_at _ _ _ _ hj, ptQ_at _ _ _ _ _ hj, if_neg (by omega)]; omega
theorem ptQ_full {rk : List (List Int)} (h : vr rk = true) {S : Nat} (hS : S < rk.length) : ptQ rk (rk.getD 0 []).length S (rk.getD 0 []).length = accL (ptF rk (rk.getD 0 []).length) (rk.getD 0 []).length (S + 1) := by
  apply getD_ext (by rw [accL_len, ptQ_len])
  intro j hj
  rw [ptQ_len] at hj
  have := vr_plc h hS hj
  rw [accL_at _ _ _ _ hj, ptQ_at _ _ _ _ _ hj, if_pos (by omega)]; rfl
theorem plc_nodup {r : List Int} {k : Nat} (hn : r.Nodup) (hk : k < r.length) : plc r (r.getD k 0) = k := by
  have e : r.getD k 0 = r[k] := by rw [List.getD_eq_getElem?_getD, List.getElem?_eq_getElem hk]; rfl
  rw [e]
  unfold plc
  rw [if_pos (List.getElem_mem _), hn.idxOf_getElem]
theorem vr_at {rk : List (List Int)} (h : vr rk = true) {S k : Nat} (hS : S < rk.length) (hk : k < (rk.getD 0 []).length) : ∃ c : Nat, c < (rk.getD 0 []).length ∧ (rk.getD S []).getD k 0 = (c : Int) ∧ ∀ j : Nat, j < (rk.getD 0 []).length → (plc (rk.getD S []) (j : Int) = k ↔ j = c) := by
  obtain ⟨hl, hx, hn⟩ := vr_row h hS
  have hk2 : k < (rk.getD S []).length := by omega
  have hm : (rk.getD S []).getD k 0 ∈ rk.getD S [] := getD_mem hk2
  obtain ⟨c, hc⟩ := Int.eq_ofNat_of_zero_le (hx _ hm).1
  have hc2 := (hx _ hm).2
  have hp : plc (rk.getD S []) (c : Int) = k := by rw [← hc]; exact plc_nodup hn hk2
  refine ⟨c, by omega, hc, fun j hj => ⟨fun e => ?_, fun e => by subst e; exact hp⟩⟩
  by_cases hjc : (j : Int) = (c : Int)
  · omega
  · exact absurd (e.trans hp.symm) (plc_ne (vr_mem h hS (by omega) (by omega)) (vr_mem h hS (by omega) (by omega)) hjc)
theorem ptQ_set {rk : List (List Int)} (h : vr rk = true) {S k : Nat} (hS : S < rk.length) (hk : k < (rk.getD 0 []).length) : ∃ c : Nat, c < (rk.getD 0 []).length ∧ (rk.getD S []).getD k 0 = (c : Int) ∧ (ptQ rk (rk.getD 0 []).length S k).getD c 0 = acc (ptF rk (rk.getD 0 []).length) c S ∧
    (ptQ rk (rk.getD 0 []).length S k).set c (acc (ptF rk (rk.getD 0 []).length) c S + (((rk.getD 0 []).length : Int) - 1 - k)) = ptQ rk (rk.getD 0 []).length S (k + 1) := by
  obtain ⟨c, hc, he, hp⟩ := vr_at h hS hk
  have hpc := (hp c hc).2 rfl
  refine ⟨c, hc, he, by rw [ptQ_at _ _ _ _ _ hc, if_neg (by omega)]; omega, ?_⟩
  apply getD_ext (by rw [List.length_set, ptQ_len, ptQ_len])
  intro j hj; rw [List.length_set, ptQ_len] at hj
  rw [set_at _ _ _ _ (by rw [ptQ_len]; exact hc), ptQ_at _ _ _ _ _ hj, ptQ_at _ _ _ _ _ hj]
  have hpj := hp j hj
  by_cases e : j = c
  · subst e
    rw [if_pos rfl, if_pos (by omega)]
    unfold ptF
    rw [hpc]
  · rw [if_neg e]
    have : plc (rk.getD S []) (j : Int) ≠ k := fun h => e (hpj.1 h)
    by_cases h2 : plc (rk.getD S []) (j : Int) < (k : Int)
    · rw [if_pos h2, if_pos (by omega)]
    · rw [if_neg h2, if_neg (by omega)]
theorem pt_bd {rk : List (List Int)} (h : vr rk = true) {S j : Nat} (hS : S ≤ rk.length) (hj : j < (rk.getD 0 []).length) : 0 ≤ acc (ptF rk (rk.getD 0 []).length) j S ∧ acc (ptF rk (rk.getD 0 []).length) j S ≤ 6 * (S : Int) := by
  obtain ⟨_, _, _, h4, _⟩ := vr_iff.1 h
  induction S with
  | zero => simp [acc]
  | succ S ih =>
    have h1 := ih (by omega)
    have h2 := vr_plc h (show S < rk.length by omega) hj
    have e : acc (ptF rk (rk.getD 0 []).length) j (S + 1) = acc (ptF rk (rk.getD 0 []).length) j S + (((rk.getD 0 []).length : Int) - 1 - plc (rk.getD S []) (j : Int)) := rfl
    rw [e, Int.natCast_add]; omega
def ptL (rk : List (List Int)) : List Int := if vr rk = true then accL (ptF rk (rk.getD 0 []).length) (rk.getD 0 []).length rk.length else []
theorem ptL_yes {rk : List (List Int)} (h : vr rk = true) : ptL rk = accL (ptF rk (rk.getD 0 []).length) (rk.getD 0 []).length rk.length := if_pos h
theorem ptL_no {rk : List (List Int)} (h : vr rk = false) : ptL rk = [] := if_neg (by rw [h]; simp)
theorem ptL_len (rk : List (List Int)) : (ptL rk).length ≤ 6 := by
  by_cases h : vr rk = true
  · obtain ⟨_, _, _, h4, _⟩ := vr_iff.1 h
    rw [ptL_yes h, accL_len]; exact h4
  · rw [ptL_no (by rw [Bool.not_eq_true] at h; exact h)]; simp

end Go.Proofs.Ytgmhodmgbhpdaac
