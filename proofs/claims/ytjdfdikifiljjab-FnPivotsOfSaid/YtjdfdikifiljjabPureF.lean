/- Chapter 2: one member decides in each order: all pivots together, in plain numbers. -/
import Derived.Test.YtjdfdikifiljjabPureE
namespace Go.Proofs.Ytjdfdikifiljjab
open Go.ChangeShapes Go.WideShapes Go.ChangeAt Go.RowKit Go.Joins Go.Sort
set_option linter.unusedVariables false

def sm (h : Nat → Int) : Nat → Int
  | 0 => 0
  | n + 1 => sm h n + h n
theorem sm_succ (h : Nat → Int) (n : Nat) : sm h (n + 1) = sm h n + h n := rfl
theorem sm_eq (h g : Nat → Int) : ∀ n, (∀ i, i < n → h i = g i) → sm h n = sm g n := by
  intro n
  induction n with
  | zero => intro _; rfl
  | succ n ih => intro k; rw [sm_succ, sm_succ, ih fun i hi => k i (by omega), k n (by omega)]
theorem sm_sub (h g : Nat → Int) : ∀ n, sm (fun i => h i - g i) n = sm h n - sm g n := by
  intro n
  induction n with
  | zero => rfl
  | succ n ih => rw [sm_succ, sm_succ, sm_succ, ih]; omega
theorem sm_add (h g : Nat → Int) : ∀ n, sm (fun i => h i + g i) n = sm h n + sm g n := by
  intro n
  induction n with
  | zero => rfl
  | succ n ih => rw [sm_succ, sm_succ, sm_succ, ih]; omega
theorem sm_zero : ∀ n, sm (fun _ => 0) n = 0 := by
  intro n
  induction n with
  | zero => rfl
  | succ n ih => rw [sm_succ, ih]; rfl
theorem sm_swap (F : Nat → Nat → Int) (n : Nat) : ∀ N, sm (fun i => sm (fun s => F i s) N) n = sm (fun s => sm (fun i => F i s) n) N := by
  intro N
  induction N with
  | zero => exact sm_zero n
  | succ N ih =>
    rw [sm_succ, ← ih, ← sm_add]
    exact sm_eq _ _ n fun i _ => rfl
theorem acc_sm (f : Nat → Nat → Int) (j : Nat) : ∀ S, acc f j S = sm (fun s => f s j) S := by
  intro S
  induction S with
  | zero => rfl
  | succ S ih => rw [sm_succ, ← ih]; rfl
theorem sm_turn (h : Nat → Int) (S : Nat) (t : Nat → Nat) (h1 : ∀ s, s < S → t s < S) (h2 : ∀ s, s < S → t (t s) = s) : sm (fun s => h (t s)) S = sm h S := by
  have := acc_turn (fun s _ => h s) 0 S t h1 h2
  rw [acc_sm, acc_sm] at this
  exact this
theorem tot_accL (f : Nat → Nat → Int) (N : Nat) : ∀ n, tot (accL f n N) = sm (fun i => acc f i N) n := by
  intro n
  induction n with
  | zero => rfl
  | succ n ih =>
    have e : accL f (n + 1) N = accL f n N ++ [acc f n N] := by unfold accL; rw [List.range_succ, List.map_append]; rfl
    rw [e, tot_append, ih, sm_succ, tot_cons, tot_nil]; omega
/-- how many members a set has, of n -/
def crd (n t : Nat) : Nat := (filK t.testBit n).length
theorem sm_in (t : Nat) (c : Int) : ∀ n, sm (fun i => if t.testBit i = true then c else 0) n = (crd n t : Int) * c := by
  intro n
  induction n with
  | zero => simp [sm, crd, filK]
  | succ n ih =>
    rw [sm_succ, ih]
    by_cases h : t.testBit n = true
    · have e : crd (n + 1) t = crd n t + 1 := by unfold crd; rw [← filK_yes (p := t.testBit) h]; simp
      rw [if_pos h, e, Int.natCast_add, Int.add_mul]; simp
    · rw [Bool.not_eq_true] at h
      have e : crd (n + 1) t = crd n t := by unfold crd; rw [← filK_no (p := t.testBit) h]
      rw [if_neg (by rw [h]; simp), e]; omega
theorem sm_out (t : Nat) (c : Int) : ∀ n, sm (fun i => if t.testBit i = true then 0 else c) n = ((n : Int) - crd n t) * c := by
  intro n
  induction n with
  | zero => simp [sm, crd, filK]
  | succ n ih =>
    rw [sm_succ, ih]
    by_cases h : t.testBit n = true
    · have e : crd (n + 1) t = crd n t + 1 := by unfold crd; rw [← filK_yes (p := t.testBit) h]; simp
      rw [if_pos h, e]
      have e2 : (((n + 1 : Nat) : Int) - ((crd n t + 1 : Nat) : Int)) = (n : Int) - crd n t := by omega
      rw [e2]; omega
    · rw [Bool.not_eq_true] at h
      have e : crd (n + 1) t = crd n t := by unfold crd; rw [← filK_no (p := t.testBit) h]
      rw [if_neg (by rw [h]; simp), e]
      have e2 : (((n + 1 : Nat) : Int) - (crd n t : Int)) = ((n : Int) - crd n t) + 1 := by omega
      rw [e2, Int.add_mul]; omega
theorem crd_le (n t : Nat) : crd n t ≤ n := filK_len _ _
theorem crd_full {n t : Nat} (ht : t < 2 ^ n) (h : crd n t = n) : t + 1 = 2 ^ n := by
  have hall : ∀ m, m ≤ n → crd m t = m → ∀ i, i < m → t.testBit i = true := by
    intro m
    induction m with
    | zero => intro _ _ i hi; exact absurd hi (Nat.not_lt_zero _)
    | succ m ih =>
      intro hm hc i hi
      by_cases hb : t.testBit m = true
      · have e : crd (m + 1) t = crd m t + 1 := by unfold crd; rw [← filK_yes (p := t.testBit) hb]; simp
        by_cases ei : i = m
        · rw [ei]; exact hb
        · exact ih (by omega) (by omega) i (by omega)
      · rw [Bool.not_eq_true] at hb
        have e : crd (m + 1) t = crd m t := by unfold crd; rw [← filK_no (p := t.testBit) hb]
        have := crd_le m t
        omega
  have e : t = 2 ^ n - 1 := by
    apply Nat.eq_of_testBit_eq
    intro i
    rw [Nat.testBit_two_pow_sub_one]
    by_cases hi : i < n
    · rw [hall n (Nat.le_refl _) h i hi, decide_eq_true hi]
    · rw [Nat.testBit_lt_two_pow (Nat.lt_of_lt_of_le ht (pow_le (by omega))), decide_eq_false hi]
  have := Nat.two_pow_pos n
  omega
theorem crd_none {n t : Nat} (ht : t < 2 ^ n) (h : crd n t = 0) : t = 0 := by
  apply Nat.eq_of_testBit_eq
  intro i
  rw [Nat.zero_testBit]
  by_cases hb : t.testBit i = true
  · have hi := bit_lt ht hb
    have : (i : Int) ∈ filK t.testBit n := filK_mem.2 ⟨i, hi, hb, rfl⟩
    unfold crd at h
    rw [List.length_eq_zero_iff] at h
    rw [h] at this; cases this
  · rw [Bool.not_eq_true] at hb; exact hb
/-- one member goes in or out -/
def flp (i s : Nat) : Nat := s ^^^ 2 ^ i
theorem flp_bit (i s j : Nat) : (flp i s).testBit j = (s.testBit j ^^ decide (i = j)) := by unfold flp; rw [Nat.testBit_xor, Nat.testBit_two_pow]
theorem flp_lt {i s n : Nat} (hi : i < n) (hs : s < 2 ^ n) : flp i s < 2 ^ n := Nat.xor_lt_two_pow hs (Nat.pow_lt_pow_right (by omega) hi)
theorem flp_flp (i s : Nat) : flp i (flp i s) = s := by unfold flp; rw [Nat.xor_assoc, Nat.xor_self, Nat.xor_zero]
theorem flp_add {i s : Nat} (h : s.testBit i = false) : flp i s = s + 2 ^ i := by
  apply Nat.eq_of_testBit_eq
  intro j
  rw [flp_bit, Nat.add_comm, add_bit i s j h]
  by_cases e : j = i
  · subst e; rw [h]; simp
  · simp [e, Ne.symm e]
/-- what an order's place weighs -/
def gg (n c : Nat) : Int := fI c * fI ((n : Int) - 1 - c)
def wW (l : List Int) (need : Int) (s : Nat) : Int := if winB l need s = true then 1 else 0
theorem wW_yes {l : List Int} {need : Int} {s : Nat} (h : winB l need s = true) : wW l need s = 1 := if_pos h
theorem wW_no {l : List Int} {need : Int} {s : Nat} (h : winB l need s = false) : wW l need s = 0 := if_neg (by rw [h]; simp)
theorem pvF_parts {l : List Int} {need : Int} (hx : ∀ x ∈ l, 0 ≤ x ∧ x ≤ 100) (h8 : l.length ≤ 8) {s i : Nat} (hs : s < 2 ^ l.length) (hi : i < l.length) :
    pvF l need s i = (if s.testBit i = true then 0 else gg l.length (crd l.length s) * wW l need (flp i s)) - (if s.testBit i = true then 0 else gg l.length (crd l.length s) * wW l need s) := by
  have hm : (mems s).length = crd l.length s := by rw [mems_at hs (by omega)]; rfl
  by_cases hb : s.testBit i = true
  · rw [if_pos hb, if_pos hb]
    exact pvF_no (by unfold dec; rw [hb]; rfl)
  · rw [if_neg hb, if_neg hb]
    rw [Bool.not_eq_true] at hb
    rw [flp_add hb]
    have hz := (hx _ (getD_mem hi)).1
    have ha := wt_add l s i hb hi
    by_cases h1 : winB l need s = true
    · have h2 : winB l need (s + 2 ^ i) = true := by
        unfold winB at h1 ⊢
        have := of_decide_eq_true h1
        exact decide_eq_true (by omega)
      rw [pvF_no (by unfold dec; rw [h1]; simp)]
      rw [wW_yes h1, wW_yes h2]; omega
    · rw [Bool.not_eq_true] at h1
      by_cases h2 : winB l need (s + 2 ^ i) = true
      · rw [pvF_yes (by unfold dec; rw [hb, h1, h2]; rfl), hm]
        unfold gg
        rw [wW_no h1, wW_yes h2]; omega
      · rw [Bool.not_eq_true] at h2
        rw [pvF_no (by unfold dec; rw [h1, h2]; simp)]
        rw [wW_no h1, wW_no h2]; omega
theorem fI_nat (c : Nat) : fI (c : Int) = fac c := by unfold fI; rw [Int.toNat_natCast]
theorem fac_succ (n : Nat) : fac (n + 1) = (n + 1) * fac n := rfl
theorem gg_in {n c : Nat} (hc : c + 1 ≤ n) : ((c + 1 : Nat) : Int) * gg n c = (fac (c + 1) : Int) * (fac (n - (c + 1)) : Int) := by
  unfold gg
  have e : (n : Int) - 1 - c = ((n - (c + 1) : Nat) : Int) := by omega
  rw [e, fI_nat, fI_nat, ← Int.mul_assoc, fac_succ, Int.natCast_mul]
theorem gg_out {n c : Nat} (hc : c < n) : ((n : Int) - c) * gg n c = (fac c : Int) * (fac (n - c) : Int) := by
  unfold gg
  have e : (n : Int) - 1 - c = ((n - (c + 1) : Nat) : Int) := by omega
  have e2 : (n : Int) - c = ((n - (c + 1) + 1 : Nat) : Int) := by omega
  have e3 : n - c = n - (c + 1) + 1 := by omega
  rw [e, fI_nat, fI_nat, e2, e3, fac_succ, Int.natCast_mul, ← Int.mul_assoc, Int.mul_comm _ ((fac c : Nat) : Int), Int.mul_assoc]
theorem piv_total {l : List Int} {need : Int} (h : sb l need = true) : tot (pvL l need) = fac l.length := by
  obtain ⟨hv, h8⟩ := sb_iff.1 h
  obtain ⟨hn1, _, hx, hnd, hnt⟩ := vb_iff.1 hv
  unfold pvL
  rw [if_pos h, tot_accL]
  have step : ∀ i, i < l.length → acc (pvF l need) i (2 ^ l.length) = sm (fun t => (if t.testBit i = true then gg l.length (crd l.length t - 1) * wW l need t else 0) - (if t.testBit i = true then 0 else gg l.length (crd l.length t) * wW l need t)) (2 ^ l.length) := by
    intro i hi
    rw [acc_sm, sm_sub]
    rw [sm_eq (fun s => pvF l need s i) (fun s => (if s.testBit i = true then 0 else gg l.length (crd l.length s) * wW l need (flp i s)) - (if s.testBit i = true then 0 else gg l.length (crd l.length s) * wW l need s)) _ fun s hs => pvF_parts hx h8 hs hi, sm_sub]
    congr 1
    rw [← sm_turn (fun t => if t.testBit i = true then gg l.length (crd l.length t - 1) * wW l need t else 0) (2 ^ l.length) (flp i) (fun s hs => flp_lt hi hs) (fun s _ => flp_flp i s)]
    refine sm_eq _ _ _ fun s hs => ?_
    have hf := flp_bit i s i
    by_cases hb : s.testBit i = true
    · rw [hb] at hf
      rw [if_pos hb, if_neg (by rw [hf]; simp)]
    · rw [Bool.not_eq_true] at hb
      rw [hb] at hf
      have hc : crd l.length (flp i s) = crd l.length s + 1 := by
        unfold crd; rw [flp_add hb, card_add hb, if_pos hi]
      rw [if_neg (by rw [hb]; simp), if_pos (by rw [hf]; simp), hc, Nat.add_sub_cancel]
  rw [sm_eq _ _ _ step, sm_swap]
  have inner : ∀ t, t < 2 ^ l.length → sm (fun i => (if t.testBit i = true then gg l.length (crd l.length t - 1) * wW l need t else 0) - (if t.testBit i = true then 0 else gg l.length (crd l.length t) * wW l need t)) l.length = if t + 1 = 2 ^ l.length then (fac l.length : Int) else 0 := by
    intro t ht
    rw [sm_sub, sm_in, sm_out]
    have hle := crd_le l.length t
    by_cases hfull : crd l.length t = l.length
    · have e := crd_full ht hfull
      have hw : wW l need t = 1 := by
        refine if_pos (decide_eq_true ?_)
        have := wtK_all l t l.length (Nat.le_refl _) fun i hi => by
          have : t = 2 ^ l.length - 1 := by omega
          rw [this, Nat.testBit_two_pow_sub_one]; exact decide_eq_true hi
        rw [List.take_length] at this
        unfold wt; omega
      rw [if_pos e, hw, hfull]
      have h1 := gg_in (n := l.length) (c := l.length - 1) (by omega)
      have e1 : l.length - 1 + 1 = l.length := by omega
      rw [e1, Nat.sub_self] at h1
      have e2 : (l.length : Int) - (l.length : Int) = 0 := by omega
      rw [e2, Int.zero_mul, Int.mul_one, h1]
      show (fac l.length : Int) * ((1 : Nat) : Int) - 0 = _
      omega
    · have hne : ¬ t + 1 = 2 ^ l.length := fun e => hfull (by
        unfold crd
        have hnot := card_not (s := 0) (t := t) l.length fun j hj => by
          have : t = 2 ^ l.length - 1 := by omega
          rw [this, Nat.testBit_two_pow_sub_one, Nat.zero_testBit]; simpa using hj
        have h0 : (filK (0 : Nat).testBit l.length).length = 0 := by
          rw [List.length_eq_zero_iff]
          apply List.eq_nil_iff_forall_not_mem.2
          intro x hxx
          obtain ⟨i, _, hb, _⟩ := filK_mem.1 hxx
          rw [Nat.zero_testBit] at hb; cases hb
        omega)
      rw [if_neg hne]
      by_cases h0 : crd l.length t = 0
      · have e := crd_none ht h0
        have hw : wW l need t = 0 := by
          refine if_neg ?_
          rw [e]
          unfold winB
          have : wt l 0 = 0 := wtK_zero l _
          rw [this]
          intro k
          have := of_decide_eq_true k
          omega
        rw [hw]; simp
      · obtain ⟨c, hc⟩ : ∃ c, crd l.length t = c + 1 := ⟨crd l.length t - 1, by omega⟩
        rw [hc, Nat.add_sub_cancel, ← Int.mul_assoc, ← Int.mul_assoc, gg_in (by omega)]
        have e : ((l.length : Int) - ((c + 1 : Nat) : Int)) * gg l.length (c + 1) = _ := gg_out (n := l.length) (c := c + 1) (by omega)
        rw [e]; omega
  rw [sm_eq _ _ _ inner]
  obtain ⟨M, hM⟩ : ∃ M, 2 ^ l.length = M + 1 := ⟨2 ^ l.length - 1, by have := Nat.two_pow_pos l.length; omega⟩
  rw [hM, sm_succ, if_pos rfl, sm_eq _ (fun _ => 0) M fun t ht => if_neg (by omega), sm_zero]; omega
end Go.Proofs.Ytjdfdikifiljjab
