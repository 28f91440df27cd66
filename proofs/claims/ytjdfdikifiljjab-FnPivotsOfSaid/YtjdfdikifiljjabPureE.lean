/- Chapter 2: swings and pivots, in plain numbers: sums over all sets, turned round. -/
import Derived.Test.YtjdfdikifiljjabPureD
namespace Go.Proofs.Ytjdfdikifiljjab
open Go.ChangeShapes Go.WideShapes Go.ChangeAt Go.RowKit Go.Joins Go.Sort
set_option linter.unusedVariables false

theorem acc_sum (f : Nat → Nat → Int) (j : Nat) : ∀ S, acc f j S = ((List.range S).map fun s => f s j).sum := by
  intro S
  induction S with
  | zero => rfl
  | succ S ih =>
    rw [List.range_succ, List.map_append, List.sum_append, ← ih]
    show acc f j S + f S j = _
    simp
theorem perm_sum {a b : List Int} (h : a.Perm b) : a.sum = b.sum := by
  induction h with
  | nil => rfl
  | cons x _ ih => rw [List.sum_cons, List.sum_cons, ih]
  | swap x y l => rw [List.sum_cons, List.sum_cons, List.sum_cons, List.sum_cons]; omega
  | trans _ _ h1 h2 => exact h1.trans h2
theorem range_perm {N : Nat} (t : Nat → Nat) (h1 : ∀ s, s < N → t s < N) (h2 : ∀ s, s < N → t (t s) = s) : ((List.range N).map t).Perm (List.range N) := by
  refine (List.perm_ext_iff_of_nodup ?_ List.nodup_range).2 fun a => ?_
  · unfold List.Nodup
    rw [List.pairwise_map]
    refine List.Pairwise.imp_of_mem (fun {a b} ha hb hab e => hab ?_) (List.nodup_range (n := N))
    rw [List.mem_range] at ha hb
    rw [← h2 a ha, ← h2 b hb, e]
  · rw [List.mem_map, List.mem_range]
    constructor
    · rintro ⟨s, hs, rfl⟩
      exact h1 s (List.mem_range.1 hs)
    · intro ha; exact ⟨t a, List.mem_range.2 (h1 a ha), h2 a ha⟩
theorem acc_turn (f : Nat → Nat → Int) (j S : Nat) (t : Nat → Nat) (h1 : ∀ s, s < S → t s < S) (h2 : ∀ s, s < S → t (t s) = s) : acc (fun s j => f (t s) j) j S = acc f j S := by
  rw [acc_sum, acc_sum]
  have := perm_sum ((range_perm t h1 h2).map fun s => f s j)
  rw [List.map_map] at this
  exact this
theorem acc_le (f g : Nat → Nat → Int) (j k : Nat) : ∀ S, (∀ s, s < S → f s j ≤ g s k) → acc f j S ≤ acc g k S := by
  intro S
  induction S with
  | zero => intro _; exact Int.le_refl _
  | succ S ih =>
    intro h
    have h1 := ih fun s hs => h s (by omega)
    have h2 := h S (by omega)
    show acc f j S + f S j ≤ acc g k S + g S k
    omega
theorem acc_eq (f g : Nat → Nat → Int) (j k : Nat) (S : Nat) (h : ∀ s, s < S → f s j = g s k) : acc f j S = acc g k S :=
  Int.le_antisymm (acc_le f g j k S fun s hs => Int.le_of_eq (h s hs)) (acc_le g f k j S fun s hs => Int.le_of_eq (h s hs).symm)

/-- how many are in a set -/
theorem card_add {u i : Nat} (h : u.testBit i = false) : ∀ n, (filK (u + 2 ^ i).testBit n).length = (filK u.testBit n).length + if i < n then 1 else 0 := by
  intro n
  induction n with
  | zero => rfl
  | succ n ih =>
    have hb : (u + 2 ^ i).testBit n = (decide (n = i) || u.testBit n) := by rw [Nat.add_comm]; exact add_bit i u n h
    by_cases e : n = i
    · subst e
      rw [if_neg (Nat.lt_irrefl n)] at ih
      rw [← filK_yes (p := (u + 2 ^ n).testBit) (by rw [hb]; simp), ← filK_no (p := u.testBit) h, List.length_append, ih, if_pos (Nat.lt_succ_self n)]; rfl
    · rw [decide_eq_false e, Bool.false_or] at hb
      have e2 : (i < n + 1) = (i < n) := by apply propext; omega
      simp only [e2]
      cases hu : u.testBit n with
      | true => rw [← filK_yes (p := (u + 2 ^ i).testBit) (by rw [hb, hu]), ← filK_yes (p := u.testBit) hu, List.length_append, List.length_append, ih]; simp; omega
      | false => rw [← filK_no (p := (u + 2 ^ i).testBit) (by rw [hb, hu]), ← filK_no (p := u.testBit) hu, ih]
theorem card_not {s t : Nat} : ∀ n, (∀ j, j < n → t.testBit j = !s.testBit j) → (filK s.testBit n).length + (filK t.testBit n).length = n := by
  intro n
  induction n with
  | zero => intro _; rfl
  | succ n ih =>
    intro h
    have h1 := ih fun j hj => h j (by omega)
    have h2 := h n (by omega)
    cases hs : s.testBit n with
    | true => rw [hs] at h2; rw [← filK_yes (p := s.testBit) hs, ← filK_no (p := t.testBit) (by rw [h2]; rfl), List.length_append]; simp; omega
    | false => rw [hs] at h2; rw [← filK_no (p := s.testBit) hs, ← filK_yes (p := t.testBit) (by rw [h2]; rfl), List.length_append]; simp; omega

/-- two members exchanged -/
def swp (i k s : Nat) : Nat := if s.testBit i = s.testBit k then s else s ^^^ (2 ^ i ^^^ 2 ^ k)
theorem swp_lt {i k s n : Nat} (hi : i < n) (hk : k < n) (hs : s < 2 ^ n) : swp i k s < 2 ^ n := by
  unfold swp
  split
  · exact hs
  · exact Nat.xor_lt_two_pow hs (Nat.xor_lt_two_pow (Nat.pow_lt_pow_right (by omega) hi) (Nat.pow_lt_pow_right (by omega) hk))
theorem xor_bit (i k s j : Nat) : (s ^^^ (2 ^ i ^^^ 2 ^ k)).testBit j = (s.testBit j ^^ (decide (i = j) ^^ decide (k = j))) := by
  rw [Nat.testBit_xor, Nat.testBit_xor, Nat.testBit_two_pow, Nat.testBit_two_pow]
theorem swp_swp {i k : Nat} (hik : i ≠ k) (s : Nat) : swp i k (swp i k s) = s := by
  by_cases h : s.testBit i = s.testBit k
  · have e : swp i k s = s := if_pos h
    rw [e, e]
  · have e : swp i k s = s ^^^ (2 ^ i ^^^ 2 ^ k) := if_neg h
    have h2 : ¬ (s ^^^ (2 ^ i ^^^ 2 ^ k)).testBit i = (s ^^^ (2 ^ i ^^^ 2 ^ k)).testBit k := by
      rw [xor_bit, xor_bit]
      simp only [decide_true, decide_eq_false hik, decide_eq_false (Ne.symm hik), Bool.xor_false, Bool.xor_true]
      intro h3; apply h
      cases s.testBit i <;> cases s.testBit k <;> simp_all
    rw [e]
    show (if _ then _ else _) = s
    rw [if_neg h2, Nat.xor_assoc, Nat.xor_self, Nat.xor_zero]
theorem swp_dec {l : List Int} {need : Int} {i k s : Nat} (hi : i < l.length) (hk : k < l.length) (hik : i ≠ k) (hw : l.getD k 0 ≤ l.getD i 0) (h : dec l need s k = true) : dec l need (swp i k s) i = true ∧ ∀ n, i < n → k < n → (filK (swp i k s).testBit n).length = (filK s.testBit n).length := by
  have h0 := h
  unfold dec winB at h0
  rw [Bool.and_eq_true, Bool.and_eq_true, Bool.not_eq_true', Bool.not_eq_true'] at h0
  obtain ⟨d1, d2, d3⟩ := h0
  have d2 := of_decide_eq_false d2
  have d3 := of_decide_eq_true d3
  rw [wt_add l s k d1 hk] at d3
  by_cases hb : s.testBit i = true
  · have e : swp i k s = minus s i + 2 ^ k := by
      show (if _ then _ else _) = _
      rw [if_neg (by rw [hb, d1]; simp)]
      apply Nat.eq_of_testBit_eq
      intro j
      have hmk : (minus s i).testBit k = false := by
        have := minus_at hb k
        rw [d1, decide_eq_false (Ne.symm hik), Bool.false_or] at this; exact this.symm
      rw [xor_bit, Nat.add_comm, add_bit k (minus s i) j hmk]
      by_cases e1 : j = i
      · subst e1
        rw [hb, minus_bit hb]
        simp [hik, Ne.symm hik]
      · have h2 := minus_at hb j
        rw [decide_eq_false e1, Bool.false_or] at h2
        rw [← h2]
        by_cases e2 : j = k
        · subst e2; rw [d1]; simp [hik]
        · simp [Ne.symm e1, Ne.symm e2, e2]
    have hmi := minus_bit hb
    have hmk : (minus s i).testBit k = false := by
      have := minus_at hb k
      rw [d1, decide_eq_false (Ne.symm hik), Bool.false_or] at this; exact this.symm
    have hw1 := wt_minus (l := l) hb hi
    have hti : (minus s i + 2 ^ k).testBit i = false := by
      rw [Nat.add_comm, add_bit k (minus s i) i hmk, hmi, decide_eq_false hik]; rfl
    refine ⟨?_, fun n hin hkn => ?_⟩
    · rw [e]
      unfold dec winB
      rw [hti, wt_add l _ i hti hi, wt_add l _ k hmk hk, hw1, decide_eq_false (by omega), decide_eq_true (by omega)]; rfl
    · rw [e, card_add hmk n, if_pos hkn]
      have := card_add hmi n
      rw [minus_plus hb, if_pos hin] at this
      omega
  · rw [Bool.not_eq_true] at hb
    have e : swp i k s = s := if_pos (by rw [hb, d1])
    refine ⟨?_, fun n _ _ => by rw [e]⟩
    rw [e]
    unfold dec winB
    rw [hb, wt_add l s i hb hi, decide_eq_false d2, decide_eq_true (by omega)]; rfl
theorem sw_mono {l : List Int} {need : Int} {i k : Nat} (h : sb l need = true) (hi : i < l.length) (hk : k < l.length) (hw : l.getD k 0 ≤ l.getD i 0) : (swL l need).getD k 0 ≤ (swL l need).getD i 0 := by
  by_cases hik : i = k
  · subst hik; exact Int.le_refl _
  unfold swL
  rw [if_pos h, accL_at _ _ _ _ hi, accL_at _ _ _ _ hk]
  rw [← acc_turn (swF l need) i (2 ^ l.length) (swp i k) (fun s hs => swp_lt hi hk hs) (fun s _ => swp_swp hik s)]
  refine acc_le _ _ _ _ _ fun s hs => ?_
  cases hd : dec l need s k with
  | true => rw [swF_yes hd, swF_yes (swp_dec hi hk hik hw hd).1]; exact Int.le_refl _
  | false => rw [swF_no hd]; exact (swF_bd l need _ i).1
theorem pv_mono {l : List Int} {need : Int} {i k : Nat} (h : sb l need = true) (hi : i < l.length) (hk : k < l.length) (hw : l.getD k 0 ≤ l.getD i 0) : (pvL l need).getD k 0 ≤ (pvL l need).getD i 0 := by
  have h8 := (sb_iff.1 h).2
  by_cases hik : i = k
  · subst hik; exact Int.le_refl _
  unfold pvL
  rw [if_pos h, accL_at _ _ _ _ hi, accL_at _ _ _ _ hk]
  rw [← acc_turn (pvF l need) i (2 ^ l.length) (swp i k) (fun s hs => swp_lt hi hk hs) (fun s _ => swp_swp hik s)]
  refine acc_le _ _ _ _ _ fun s hs => ?_
  cases hd : dec l need s k with
  | true =>
    obtain ⟨a, b⟩ := swp_dec hi hk hik hw hd
    have hc : (mems (swp i k s)).length = (mems s).length := b 20 (by omega) (by omega)
    rw [pvF_yes hd, pvF_yes a, hc]; exact Int.le_refl _
  | false => rw [pvF_no hd]; exact pvF_nn l need _ i

/-- all others instead -/
def trn (n i s : Nat) : Nat := s ^^^ setN (filK (fun j => decide (j ≠ i)) n)
theorem trn_bit (n i s j : Nat) : (trn n i s).testBit j = (s.testBit j ^^ (decide (j < n) && decide (j ≠ i))) := by
  unfold trn; rw [Nat.testBit_xor, filK_bit]
theorem trn_lt {n i s : Nat} (hs : s < 2 ^ n) : trn n i s < 2 ^ n :=
  Nat.xor_lt_two_pow hs (setN_lt (filK_vm (fun j => decide (j ≠ i)) n))
theorem trn_trn (n i s : Nat) : trn n i (trn n i s) = s := by unfold trn; rw [Nat.xor_assoc, Nat.xor_self, Nat.xor_zero]
theorem trn_not {n i s : Nat} (hi : s.testBit i = false) : ∀ j, j < n → (trn n i s).testBit j = !(s + 2 ^ i).testBit j := by
  intro j hj
  rw [trn_bit, Nat.add_comm, add_bit i s j hi, decide_eq_true hj, Bool.true_and]
  by_cases e : j = i
  · subst e; rw [hi]; simp
  · cases s.testBit j <;> simp [e]
theorem trn_dec {l : List Int} {need : Int} {i s : Nat} (hi : i < l.length) : dec l (tot l - need + 1) s i = dec l need (trn l.length i s) i := by
  have ht : (trn l.length i s).testBit i = s.testBit i := by rw [trn_bit]; simp
  cases hb : s.testBit i with
  | true => unfold dec; rw [ht, hb]; rfl
  | false =>
    have hw := wtK_not l (s + 2 ^ i) (trn l.length i s) l.length (Nat.le_refl _) (trn_not hb)
    rw [List.take_length] at hw
    have hw2 : wt l (s + 2 ^ i) + wt l (trn l.length i s) = tot l := hw
    rw [wt_add l s i hb hi] at hw2
    rw [hb] at ht
    unfold dec winB
    rw [hb, ht, wt_add l s i hb hi, wt_add l _ i ht hi, Bool.not_false, Bool.true_and, Bool.true_and, Bool.eq_iff_iff, Bool.and_eq_true, Bool.and_eq_true, Bool.not_eq_true', Bool.not_eq_true', decide_eq_true_eq, decide_eq_true_eq, decide_eq_false_iff_not, decide_eq_false_iff_not]
    constructor <;> rintro ⟨a, b⟩ <;> constructor <;> omega
theorem sb_dual {l : List Int} {need : Int} (h : sb l need = true) : sb l (tot l - need + 1) = true := by
  obtain ⟨a, b⟩ := sb_iff.1 h
  exact sb_iff.2 ⟨vb_dual a, b⟩
theorem sw_dual {l : List Int} {need : Int} (h : sb l need = true) : swL l (tot l - need + 1) = swL l need := by
  unfold swL
  rw [if_pos h, if_pos (sb_dual h)]
  apply getD_ext (by rw [accL_len, accL_len])
  intro i hi
  rw [accL_len] at hi
  rw [accL_at _ _ _ _ hi, accL_at _ _ _ _ hi, ← acc_turn (swF l need) i (2 ^ l.length) (trn l.length i) (fun s hs => trn_lt hs) (fun s _ => trn_trn l.length i s)]
  refine acc_eq _ _ _ _ _ fun s hs => ?_
  show swF l _ s i = swF l need (trn l.length i s) i
  unfold swF
  rw [trn_dec hi]
theorem pv_dual {l : List Int} {need : Int} (h : sb l need = true) : pvL l (tot l - need + 1) = pvL l need := by
  have h8 := (sb_iff.1 h).2
  unfold pvL
  rw [if_pos h, if_pos (sb_dual h)]
  apply getD_ext (by rw [accL_len, accL_len])
  intro i hi
  rw [accL_len] at hi
  rw [accL_at _ _ _ _ hi, accL_at _ _ _ _ hi, ← acc_turn (pvF l need) i (2 ^ l.length) (trn l.length i) (fun s hs => trn_lt hs) (fun s _ => trn_trn l.length i s)]
  refine acc_eq _ _ _ _ _ fun s hs => ?_
  show pvF l _ s i = pvF l need (trn l.length i s) i
  have hd := trn_dec (need := need) (s := s) hi
  cases hb : dec l (tot l - need + 1) s i with
  | false => rw [hb] at hd; rw [pvF_no hb, pvF_no hd.symm]
  | true =>
    rw [hb] at hd
    rw [pvF_yes hb, pvF_yes hd.symm]
    have hbi : s.testBit i = false := by
      unfold dec at hb
      rw [Bool.and_eq_true, Bool.not_eq_true'] at hb
      exact hb.1
    have hc := card_not l.length (trn_not (n := l.length) hbi)
    rw [card_add hbi, if_pos hi] at hc
    rw [mems_at hs (by omega), mems_at (trn_lt hs) (by omega)]
    have e1 : ((l.length : Int) - 1 - (filK s.testBit l.length).length) = (filK (trn l.length i s).testBit l.length).length := by omega
    have e2 : ((l.length : Int) - 1 - (filK (trn l.length i s).testBit l.length).length) = (filK s.testBit l.length).length := by omega
    rw [e1, e2, Int.mul_comm]
end Go.Proofs.Ytjdfdikifiljjab
