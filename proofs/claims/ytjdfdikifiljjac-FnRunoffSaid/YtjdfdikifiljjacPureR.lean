/- Chapter 2: what holds of the runoff, in plain numbers. -/
import Derived.Test.YtjdfdikifiljjacRun6
namespace Go.Proofs.Ytjdfdikifiljjac
open Go.ChangeShapes Go.WideShapes Go.ChangeAt Go.RowKit Go.Joins Go.Sort
set_option linter.unusedVariables false

theorem wk_least {f : Int → Int} {l : List Int} {n : Int} : ∀ k, ∀ i, i < k → (wkK f l n k).2 ≤ f (l.getD i 0)
  | 0, i, h => absurd h (Nat.not_lt_zero _)
  | k + 1, i, h => by
    by_cases hc : f (l.getD k 0) ≤ (wkK f l n k).2
    · rw [wk_yes hc]
      by_cases e : i = k
      · rw [e]; exact Int.le_refl _
      · exact Int.le_trans hc (wk_least (f := f) (l := l) (n := n) k i (by omega))
    · rw [wk_no hc]
      by_cases e : i = k
      · rw [e]; omega
      · exact wk_least (f := f) (l := l) (n := n) k i (by omega)
/-- the struck choice is the first of no more lists than another -/
theorem wkst_least {rk : List (List Int)} {s : Nat} {x : Int} (hx : x ∈ mems s) : frN rk s (wkst rk s) ≤ frN rk s x := by
  obtain ⟨i, h1, h2⟩ := mem_getD hx
  obtain ⟨a, _, h3, h4⟩ := wk_in (f := frN rk s) (l := mems s) (n := rk.length) (fun x => (frN_bd rk s x).2) _ (by omega) (Nat.le_refl _)
  have := wk_least (f := frN rk s) (l := mems s) (n := rk.length) (mems s).length i h1
  rw [h4, h2, ← h3] at this
  exact this
/-- how many lists begin with each choice -/
def hdF (rk : List (List Int)) : Nat → Nat → Int := fun S j => if (rk.getD S []).getD 0 0 = (j : Int) then 1 else 0
theorem hd_yes {rk : List (List Int)} {c k : Nat} (h : (rk.getD k []).getD 0 0 = (c : Int)) : acc (hdF rk) c (k + 1) = acc (hdF rk) c k + 1 := by
  show acc _ c k + hdF rk k c = _
  rw [show hdF rk k c = 1 from if_pos h]
theorem hd_no {rk : List (List Int)} {c k : Nat} (h : (rk.getD k []).getD 0 0 ≠ (c : Int)) : acc (hdF rk) c (k + 1) = acc (hdF rk) c k := by
  show acc _ c k + hdF rk k c = _
  rw [show hdF rk k c = 0 from if_neg h]; omega
theorem hd_bd (rk : List (List Int)) (c k : Nat) : 0 ≤ acc (hdF rk) c k ∧ acc (hdF rk) c k ≤ k := by
  have := acc_bd (hdF rk) 1 (fun S j => by unfold hdF; split <;> omega) c k
  omega
theorem hd_start (rk : List (List Int)) (n : Nat) : zeros n = accL (hdF rk) n 0 := by
  refine getD_ext (by simp [zeros, accL]) fun j hj => ?_
  rw [zeros_len] at hj; rw [zeros_at, accL_at _ _ _ _ hj]; rfl
theorem hd_set {rk : List (List Int)} {c n k : Nat} (hc : c < n) (h : (rk.getD k []).getD 0 0 = (c : Int)) : (accL (hdF rk) n k).set c (acc (hdF rk) c k + 1) = accL (hdF rk) n (k + 1) := by
  refine getD_ext (by simp [accL_len]) fun j hj => ?_
  rw [List.length_set, accL_len] at hj
  rw [set_at _ _ _ _ (by rw [accL_len]; exact hc), accL_at _ _ _ _ hj, accL_at _ _ _ _ hj]
  by_cases e : j = c
  · subst e; rw [if_pos rfl, hd_yes h]
  · rw [if_neg e, hd_no (by rw [h]; omega)]
theorem hd_le {rk : List (List Int)} {s k : Nat} (hne : ∀ S, S < rk.length → 0 < (rk.getD S []).length) (hk : s.testBit k = true) : ∀ S, S ≤ rk.length → acc (hdF rk) k S ≤ acc (frF rk s) k S
  | 0, _ => Int.le_refl _
  | S + 1, h => by
    have ih := hd_le hne hk S (by omega)
    by_cases h0 : (rk.getD S []).getD 0 0 = (k : Int)
    · rw [hd_yes h0, fr_yes (by rw [fstS_at (hne S (by omega)) (by rw [h0]; exact hk) (fun i hi => absurd hi (Nat.not_lt_zero _)), h0])]; omega
    · rw [hd_no h0]
      by_cases h1 : fstS (rk.getD S []) s = (k : Int)
      · rw [fr_yes h1]; omega
      · rw [fr_no h1]; exact ih
theorem fr_two {rk : List (List Int)} {s a b : Nat} (h : a ≠ b) : ∀ S, acc (frF rk s) a S + acc (frF rk s) b S ≤ (S : Nat)
  | 0 => Int.le_refl _
  | S + 1 => by
    have ih := fr_two (rk := rk) (s := s) h S
    by_cases h1 : fstS (rk.getD S []) s = (a : Int)
    · rw [fr_yes h1, fr_no (by rw [h1]; omega)]; omega
    · rw [fr_no h1]
      by_cases h2 : fstS (rk.getD S []) s = (b : Int)
      · rw [fr_yes h2]; omega
      · rw [fr_no h2]; omega
theorem other {s : Nat} (h : 1 < (mems s).length) (k : Int) : ∃ c : Nat, (c : Int) ∈ mems s ∧ (c : Int) ≠ k := by
  have hn := filK_nodup s.testBit 20
  have hm : ∀ x ∈ mems s, ∃ c : Nat, x = (c : Int) := fun x hx => by obtain ⟨i, _, _, e⟩ := filK_mem.1 hx; exact ⟨i, e⟩
  change (mems s).Nodup at hn
  generalize mems s = l at h hn hm ⊢
  match l, h, hn, hm with
  | a :: b :: t, _, hn, hm =>
    have hab : a ≠ b := by rintro rfl; exact (List.nodup_cons.1 hn).1 (List.mem_cons_self ..)
    by_cases e : a = k
    · obtain ⟨c, rfl⟩ := hm b (by simp)
      exact ⟨c, by simp, by rw [← e]; exact fun h => hab h.symm⟩
    · obtain ⟨c, rfl⟩ := hm a (by simp)
      exact ⟨c, by simp, e⟩
theorem mem_bit {s c : Nat} (h : (c : Int) ∈ mems s) : s.testBit c = true ∧ c < 20 := by
  obtain ⟨i, h1, h2, h3⟩ := filK_mem.1 h
  obtain rfl : c = i := by omega
  exact ⟨h2, h1⟩
theorem bit_mem {s c : Nat} (h : s.testBit c = true) (hc : c < 20) : (c : Int) ∈ mems s := filK_mem.2 ⟨c, hc, h, rfl⟩
/-- a choice that begins more than half of the lists stays -/
theorem maj_stays {rk : List (List Int)} (hv : vr rk = true) {k : Nat} (hk : k < (rk.getD 0 []).length) (hm : (rk.length : Int) < 2 * acc (hdF rk) k rk.length) : ∀ j, j < (rk.getD 0 []).length → (k : Int) ∈ mems (lfN rk j)
  | 0, _ => by
    obtain ⟨_, _, _, h6, _⟩ := vr_iff.1 hv
    refine bit_mem ?_ (by omega)
    show (2 ^ _ - 1).testBit k = true
    rw [Nat.testBit_two_pow_sub_one]; exact decide_eq_true hk
  | j + 1, h => by
    have ih := maj_stays hv hk hm j (by omega)
    obtain ⟨_, _, h1, h6, _⟩ := vr_iff.1 hv
    obtain ⟨hb, h20⟩ := mem_bit ih
    obtain ⟨m, _, hw, hle, hmin⟩ := lf_strike hv (j := j) h
    obtain ⟨c, hc, hck⟩ := other (s := lfN rk j) (by rw [lf_len (by omega) j (by omega)]; omega) (k : Int)
    have e1 := wkst_least (rk := rk) hc
    have e2 := hd_le (rk := rk) (s := lfN rk j) (fun S hS => by rw [(vr_row hv hS).1]; omega) hb rk.length (Nat.le_refl _)
    have e3 := fr_two (rk := rk) (s := lfN rk j) (a := c) (b := k) (by omega) rk.length
    have e4 : frN rk (lfN rk j) (c : Int) = acc (frF rk (lfN rk j)) c rk.length := rfl
    have hne : m ≠ k := by
      rintro rfl
      rw [hw] at e1
      have e5 : frN rk (lfN rk j) (m : Int) = acc (frF rk (lfN rk j)) m rk.length := rfl
      omega
    obtain ⟨i, hi, hwi⟩ := wkst_in (rk := rk) (s := lfN rk j) (by rw [lf_len (by omega) j (by omega)]; omega)
    have hmm : (m : Int) ∈ mems (lfN rk j) := by rw [← hw, hwi]; exact getD_mem hi
    refine bit_mem ?_ h20
    rw [hmin, minus_test (mem_bit hmm).1, hb]
    simp only [Bool.true_and, decide_eq_true_eq]; omega
theorem maj_wins {rk : List (List Int)} (hv : vr rk = true) {k : Nat} (hk : k < (rk.getD 0 []).length) (hm : (rk.length : Int) < 2 * acc (hdF rk) k rk.length) : roF rk = (k : Int) := by
  obtain ⟨_, _, h1, h6, _⟩ := vr_iff.1 hv
  have h := maj_stays hv hk hm ((rk.getD 0 []).length - 1) (by omega)
  have hl := lf_len (rk := rk) (by omega) ((rk.getD 0 []).length - 1) (by omega)
  have e := ro_last hv
  generalize mems (lfN rk ((rk.getD 0 []).length - 1)) = l at h hl e
  obtain ⟨x, rfl⟩ := List.length_eq_one_iff.1 (show l.length = 1 by omega)
  rw [List.mem_singleton] at h
  rw [← e, h]; simp
/-- where a set's last two are left, one of them last in each list: it is not the one that stays -/
theorem last_falls {rk : List (List Int)} (hv : vr rk = true) (h2 : 1 < (rk.getD 0 []).length) (hl : ∀ S, S < rk.length → (rk.getD S []).getD ((rk.getD 0 []).length - 1) 0 = roF rk) : False := by
  obtain ⟨h0, _, h1, h6, _⟩ := vr_iff.1 hv
  have e := ro_last hv
  have hlen := lf_len (rk := rk) (by omega) ((rk.getD 0 []).length - 1) (by omega)
  have hlen2 := lf_len (rk := rk) (by omega) ((rk.getD 0 []).length - 2) (by omega)
  obtain ⟨m, _, hw, hle, hmin⟩ := lf_strike hv (j := (rk.getD 0 []).length - 2) (by omega)
  rw [show (rk.getD 0 []).length - 2 + 1 = (rk.getD 0 []).length - 1 by omega] at hmin
  have hr : roF rk ∈ mems (lfN rk ((rk.getD 0 []).length - 1)) := by rw [← e]; exact getD_mem (by omega)
  obtain ⟨c, hc20, hcb, hce⟩ := filK_mem.1 hr
  obtain ⟨i, hi, hwi⟩ := wkst_in (rk := rk) (s := lfN rk ((rk.getD 0 []).length - 2)) (by omega)
  have hmm : (m : Int) ∈ mems (lfN rk ((rk.getD 0 []).length - 2)) := by rw [← hw, hwi]; exact getD_mem hi
  obtain ⟨hmb, hm20⟩ := mem_bit hmm
  rw [hmin, minus_test hmb, Bool.and_eq_true, decide_eq_true_eq] at hcb
  obtain ⟨hcb, hcm⟩ := hcb
  have hcmem := bit_mem hcb hc20
  have e1 := wkst_least (rk := rk) hcmem
  rw [hw] at e1
  have hno : ∀ S, S ≤ rk.length → acc (frF rk (lfN rk ((rk.getD 0 []).length - 2))) c S = 0 := by
    intro S hS
    induction S with
    | zero => rfl
    | succ S ih =>
      rw [fr_no ?_, ih (by omega)]
      intro hf
      obtain ⟨hw2, hx, hnd⟩ := vr_row hv (show S < rk.length by omega)
      have hmr := vr_mem hv (i := S) (by omega) (x := (m : Int)) (by omega) (by
        have := (lf_lt rk ((rk.getD 0 []).length - 2))
        have h9 : m < (rk.getD 0 []).length := by
          by_cases h9 : m < (rk.getD 0 []).length
          · exact h9
          · have := Nat.testBit_lt_two_pow (Nat.lt_of_lt_of_le this (pow_le (show (rk.getD 0 []).length ≤ m by omega)))
            rw [this] at hmb; simp at hmb
        omega)
      obtain ⟨a, ha, hfa, hba, hbe⟩ := fstS_idx hmr (s := lfN rk ((rk.getD 0 []).length - 2)) (by rw [Int.toNat_natCast]; exact hmb)
      obtain ⟨b, hb, hbm⟩ := mem_getD hmr
      have hlS := hl S (by omega)
      have hab : a = (rk.getD 0 []).length - 1 := by
        have h8 : (rk.getD S []).getD a 0 = (rk.getD S []).getD ((rk.getD 0 []).length - 1) 0 := by rw [← hfa, hf, hlS, hce]
        have p1 := plc_nodup hnd ha
        have p2 := plc_nodup hnd (show (rk.getD 0 []).length - 1 < (rk.getD S []).length by omega)
        rw [h8] at p1
        omega
      have hbn : b ≠ (rk.getD 0 []).length - 1 := by
        rintro rfl
        rw [hlS, hce] at hbm; omega
      have := hbe b (by omega)
      rw [hbm, Int.toNat_natCast, hmb] at this
      simp at this
  have hyes : ∀ S, S ≤ rk.length → acc (frF rk (lfN rk ((rk.getD 0 []).length - 2))) m S = S := by
    intro S hS
    induction S with
    | zero => rfl
    | succ S ih =>
      rw [fr_yes ?_, ih (by omega)]; · omega
      obtain ⟨hw2, hx, hnd⟩ := vr_row hv (show S < rk.length by omega)
      obtain ⟨a, k, _, hk, hra, hfs, hmem, _⟩ := row_first hv (j := (rk.getD 0 []).length - 2) (by omega) (show S < rk.length by omega)
      rw [hfs]
      have hS1 := hno (S + 1) hS
      have hS0 := hno S (by omega)
      have hkc : k ≠ c := by
        rintro rfl
        rw [fr_yes hfs, hS0] at hS1; omega
      by_cases hkm : k = m
      · rw [hkm]
      · have hin : (k : Int) ∈ mems (lfN rk ((rk.getD 0 []).length - 1)) := bit_mem (by rw [hmin, minus_test hmb, (mem_bit hmem).1]; simp only [Bool.true_and, decide_eq_true_eq]; exact hkm) (mem_bit hmem).2
        obtain ⟨x, hx1⟩ := List.length_eq_one_iff.1 (show (mems (lfN rk ((rk.getD 0 []).length - 1))).length = 1 by omega)
        rw [hx1, List.mem_singleton] at hin hr
        omega
  have e2 := hno rk.length (Nat.le_refl _)
  have e3 := hyes rk.length (Nat.le_refl _)
  have e4 : frN rk (lfN rk ((rk.getD 0 []).length - 2)) (c : Int) = acc (frF rk (lfN rk ((rk.getD 0 []).length - 2))) c rk.length := rfl
  have e5 : frN rk (lfN rk ((rk.getD 0 []).length - 2)) (m : Int) = acc (frF rk (lfN rk ((rk.getD 0 []).length - 2))) m rk.length := rfl
  omega
end Go.Proofs.Ytjdfdikifiljjac
