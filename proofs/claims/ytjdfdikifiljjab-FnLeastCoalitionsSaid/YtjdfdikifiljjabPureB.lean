/- Chapter 2: what the laws of votes want, in plain numbers. -/
import Derived.Test.YtjdfdikifiljjabSets2
import Derived.Test.YtjdfdikifiljjabPasses
import Derived.Test.YtjdfdikifiljjabMerge3
namespace Go.Proofs.Ytjdfdikifiljjab
open Go.ChangeShapes Go.WideShapes Go.ChangeAt Go.RowKit Go.Joins Go.Sort
set_option linter.unusedVariables false

/-- bodies -/
theorem vb_less {l : List Int} {need : Int} (h : vb l need = true) (h1 : need ≠ 1) : vb l (need - 1) = true := by
  obtain ⟨a, b, c, d, e⟩ := vb_iff.1 h
  exact vb_iff.2 ⟨a, b, c, by omega, by omega⟩
theorem vb_dual {l : List Int} {need : Int} (h : vb l need = true) : vb l (tot l - need + 1) = true := by
  obtain ⟨a, b, c, d, e⟩ := vb_iff.1 h
  exact vb_iff.2 ⟨a, b, c, by omega, by omega⟩

/-- ballots -/
theorem tlyK_succ (l bs : List Int) (kind : Int) (k : Nat) : tlyK l bs kind (k + 1) = tlyK l bs kind k + if bs.getD k 0 = kind then l.getD k 0 else 0 := rfl
theorem tly_sumK (l bs : List Int) (hb : bs.length = l.length) (hx : ∀ x ∈ bs, 0 ≤ x ∧ x ≤ 3) : ∀ k, k ≤ l.length → tlyK l bs 0 k + tlyK l bs 1 k + tlyK l bs 2 k + tlyK l bs 3 k = tot (l.take k) := by
  intro k
  induction k with
  | zero => intro _; rfl
  | succ k ih =>
    intro hk
    have h1 := ih (by omega)
    have h2 := hx _ (getD_mem (l := bs) (k := k) (by omega))
    rw [tot_take l k (by omega), ← h1, tlyK_succ, tlyK_succ, tlyK_succ, tlyK_succ]
    generalize bs.getD k 0 = b at h2
    generalize l.getD k 0 = z
    have h3 : b = 0 ∨ b = 1 ∨ b = 2 ∨ b = 3 := by omega
    rcases h3 with rfl | rfl | rfl | rfl
    · rw [if_pos rfl, if_neg (by omega), if_neg (by omega), if_neg (by omega)]; omega
    · rw [if_neg (by omega), if_pos rfl, if_neg (by omega), if_neg (by omega)]; omega
    · rw [if_neg (by omega), if_neg (by omega), if_pos rfl, if_neg (by omega)]; omega
    · rw [if_neg (by omega), if_neg (by omega), if_neg (by omega), if_pos rfl]; omega
theorem tly_sum {l : List Int} {need : Int} {bs : List Int} (h : vbal l need bs = true) : tly l bs 0 + tly l bs 1 + tly l bs 2 + tly l bs 3 = tot l := by
  obtain ⟨_, h1, h2⟩ := vbal_iff.1 h
  have := tly_sumK l bs h1 h2 l.length (Nat.le_refl _)
  rwa [List.take_length] at this
theorem tlyK_set (l bs : List Int) (i : Nat) (hi : i < bs.length) (h : ∀ x ∈ l, 0 ≤ x ∧ x ≤ 100) (hb : bs.length = l.length) : ∀ k, k ≤ l.length →
    tlyK l bs 1 k ≤ tlyK l (bs.set i 1) 1 k ∧ tlyK l (bs.set i 1) 0 k ≤ tlyK l bs 0 k ∧ tlyK l (bs.set i 1) 3 k ≤ tlyK l bs 3 k := by
  intro k
  induction k with
  | zero => intro _; exact ⟨Int.le_refl _, Int.le_refl _, Int.le_refl _⟩
  | succ k ih =>
    intro hk
    obtain ⟨h1, h2, h3⟩ := ih (by omega)
    have h4 := h _ (getD_mem (l := l) (k := k) (by omega))
    rw [tlyK_succ, tlyK_succ, tlyK_succ, tlyK_succ, tlyK_succ, tlyK_succ, set_at _ _ _ _ hi]
    by_cases e : k = i
    · rw [if_pos e]
      simp only [if_true]
      refine ⟨?_, ?_, ?_⟩ <;> (try split) <;> (try split) <;> omega
    · rw [if_neg e]
      refine ⟨?_, ?_, ?_⟩ <;> split <;> omega
theorem tly_set {l : List Int} {need : Int} {bs : List Int} (h : vbal l need bs = true) {i : Nat} (hi : i < bs.length) :
    tly l bs 1 ≤ tly l (bs.set i 1) 1 ∧ tly l (bs.set i 1) 0 ≤ tly l bs 0 ∧ tly l (bs.set i 1) 3 ≤ tly l bs 3 := by
  obtain ⟨hv, h1, h2⟩ := vbal_iff.1 h
  exact tlyK_set l bs i hi (vb_iff.1 hv).2.2.1 h1 l.length (Nat.le_refl _)
theorem mem_set {l : List Int} {i : Nat} {v x : Int} (h : x ∈ l.set i v) : x = v ∨ x ∈ l := by
  rcases List.mem_or_eq_of_mem_set h with h | h
  · exact .inr h
  · exact .inl h
theorem vbal_set {l : List Int} {need : Int} {bs : List Int} (h : vbal l need bs = true) (i : Nat) : vbal l need (bs.set i 1) = true := by
  obtain ⟨hv, h1, h2⟩ := vbal_iff.1 h
  refine vbal_iff.2 ⟨hv, by rw [List.length_set, h1], fun x hx => ?_⟩
  rcases mem_set hx with rfl | h
  · omega
  · exact h2 x h
theorem passB_iff {l m : List Int} {need q : Int} {s : Bool} : passB l need m q s = true ↔ vbal l need m = true ∧ q ≤ tot l - tly l m 0 ∧ (if s = true then tly l m 3 < tly l m 1 else need ≤ tly l m 1) := by
  by_cases h : vbal l need m = true
  · by_cases h2 : q ≤ tot l - tly l m 0
    · cases s with
      | true => rw [passB_simple h h2, decide_eq_true_eq]; simp [h, h2]
      | false => rw [passB_need h h2, decide_eq_true_eq]; simp [h, h2]
    · rw [passB_few h2]; simp [h2]
  · rw [passB_no (by rw [Bool.not_eq_true] at h; exact h)]; simp [h]
theorem pass_set {l m : List Int} {need q : Int} {s : Bool} (h : passB l need m q s = true) {i : Nat} (hi : i < m.length) : passB l need (m.set i 1) q s = true := by
  obtain ⟨h1, h2, h3⟩ := passB_iff.1 h
  obtain ⟨a, b, c⟩ := tly_set h1 hi
  refine passB_iff.2 ⟨vbal_set h1 i, by omega, ?_⟩
  cases s <;> simp at h3 ⊢ <;> omega
theorem tly_le {l : List Int} {need : Int} {bs : List Int} (h : vbal l need bs = true) (k : Int) (hk : k = 0 ∨ k = 1 ∨ k = 2 ∨ k = 3) : 0 ≤ tly l bs k ∧ tly l bs k ≤ tot l := by
  have hs := tly_sum h
  obtain ⟨hv, h1, h2⟩ := vbal_iff.1 h
  have hx := (vb_iff.1 hv).2.2.1
  have a := (tly_bd l bs 0 hx).1
  have b := (tly_bd l bs 1 hx).1
  have c := (tly_bd l bs 2 hx).1
  have d := (tly_bd l bs 3 hx).1
  rcases hk with rfl | rfl | rfl | rfl <;> omega
theorem pass_zero {l m : List Int} {need q : Int} {s : Bool} (h : passB l need m q s = true) : passB l need m 0 s = true := by
  obtain ⟨h1, h2, h3⟩ := passB_iff.1 h
  have := tly_le h1 0 (.inl rfl)
  exact passB_iff.2 ⟨h1, by omega, h3⟩

/-- sets -/
theorem filK_nodup (p : Nat → Bool) : ∀ k, (filK p k).Nodup := by
  intro k
  induction k with
  | zero => exact List.nodup_nil
  | succ k ih =>
    unfold filK
    split
    · rw [List.nodup_append]
      refine ⟨ih, by simp, fun a ha b hb => ?_⟩
      rw [List.mem_singleton] at hb
      obtain ⟨i, hi, _, rfl⟩ := filK_mem.1 ha
      omega
    · simpa using ih
theorem filK_vm (p : Nat → Bool) (n : Nat) : vmB (filK p n) n = true := by
  refine vmB_iff.2 ⟨fun x hx => ?_, filK_nodup p n⟩
  obtain ⟨i, hi, _, rfl⟩ := filK_mem.1 hx
  omega
theorem filK_bit (p : Nat → Bool) (n k : Nat) : (setN (filK p n)).testBit k = (decide (k < n) && p k) := by
  rw [setN_bit _ (fun x hx => by obtain ⟨i, _, _, rfl⟩ := filK_mem.1 hx; omega) (filK_nodup p n) k, Bool.eq_iff_iff, decide_eq_true_eq, filK_mem, Bool.and_eq_true, decide_eq_true_eq]
  constructor
  · rintro ⟨i, h1, h2, h3⟩
    obtain rfl : k = i := by omega
    exact ⟨h1, h2⟩
  · rintro ⟨h1, h2⟩
    exact ⟨k, h1, h2, rfl⟩
theorem wtK_all (l : List Int) (s : Nat) : ∀ k, k ≤ l.length → (∀ i, i < k → s.testBit i = true) → wtK l s k = tot (l.take k) := by
  intro k
  induction k with
  | zero => intro _ _; rfl
  | succ k ih =>
    intro hk h
    unfold wtK
    rw [ih (by omega) fun i hi => h i (by omega), h k (by omega), if_pos rfl, tot_take l k (by omega)]
theorem wt_all (l : List Int) (p : Nat → Bool) (hp : ∀ i, i < l.length → p i = true) : wt l (setN (filK p l.length)) = tot l := by
  unfold wt
  rw [wtK_all l _ l.length (Nat.le_refl _) fun i hi => by rw [filK_bit, hp i hi, decide_eq_true hi]; rfl, List.take_length]
theorem wtK_not (l : List Int) (s t : Nat) : ∀ k, k ≤ l.length → (∀ i, i < k → t.testBit i = !s.testBit i) → wtK l s k + wtK l t k = tot (l.take k) := by
  intro k
  induction k with
  | zero => intro _ _; rfl
  | succ k ih =>
    intro hk h
    have h1 := ih (by omega) fun i hi => h i (by omega)
    unfold wtK
    rw [tot_take l k (by omega), h k (by omega), ← h1]
    cases s.testBit k <;> simp <;> omega
theorem wtK_zero (l : List Int) : ∀ k, wtK l 0 k = 0 := by
  intro k
  induction k with
  | zero => rfl
  | succ k ih => unfold wtK; rw [ih, Nat.zero_testBit]; rfl
theorem wtK_tly (l bs : List Int) (s : Nat) : ∀ k, (∀ i, i < k → s.testBit i = decide (bs.getD i 0 = 1)) → wtK l s k = tlyK l bs 1 k := by
  intro k
  induction k with
  | zero => intro _; rfl
  | succ k ih =>
    intro h
    unfold wtK tlyK
    rw [ih fun i hi => h i (by omega), h k (by omega)]
    simp
theorem winsB_iff {l : List Int} {need : Int} {m : List Int} : winsB l need m = true ↔ vb l need = true ∧ vmB m l.length = true ∧ need ≤ wt l (setN m) := by
  unfold winsB winB; rw [Bool.and_eq_true, Bool.and_eq_true, decide_eq_true_eq]
/-- all others -/
def oth (m : List Int) (n : Nat) : List Int := filK (fun i => !decide ((i : Int) ∈ m)) n
def nums (n : Nat) : List Int := filK (fun _ => true) n
theorem wins_more {l : List Int} {need : Int} {m : List Int} (h : winsB l need m = true) {x : Int} (hx : x ∈ oth m l.length) : winsB l need (m ++ [x]) = true := by
  obtain ⟨h1, h2, h3⟩ := winsB_iff.1 h
  obtain ⟨i, hi, hp, rfl⟩ := filK_mem.1 hx
  have hn : (i : Int) ∉ m := by simpa using hp
  obtain ⟨v1, v2⟩ := vmB_iff.1 h2
  have hl := (vb_iff.1 h1).2.2.1 _ (getD_mem (l := l) (k := i) hi)
  refine winsB_iff.2 ⟨h1, vmB_iff.2 ⟨fun y hy => ?_, ?_⟩, ?_⟩
  · rw [List.mem_append, List.mem_singleton] at hy
    rcases hy with hy | rfl
    · exact v1 y hy
    · omega
  · rw [List.nodup_append]
    refine ⟨v2, by simp, fun a ha b hb => ?_⟩
    rw [List.mem_singleton] at hb
    rintro rfl
    exact hn (hb ▸ ha)
  · have e : setN (m ++ [(i : Int)]) = setN m + 2 ^ i := by
      rw [setN_append]; simp [setN]
    rw [e, wt_add l _ i (by rw [setN_bit m (fun y hy => (v1 y hy).1) v2]; exact decide_eq_false hn) hi]
    omega
theorem wins_all {l : List Int} {need : Int} (h : vb l need = true) : winsB l need (nums l.length) = true := by
  refine winsB_iff.2 ⟨h, filK_vm _ _, ?_⟩
  unfold nums
  rw [wt_all l _ fun _ _ => rfl]
  exact (vb_iff.1 h).2.2.2.2
theorem wins_none {l : List Int} {need : Int} : winsB l need [] = false := by
  rw [← Bool.not_eq_true]
  intro h
  obtain ⟨h1, _, h3⟩ := winsB_iff.1 h
  have : wt l (setN []) = 0 := wtK_zero l _
  have := (vb_iff.1 h1).2.2.2.1
  omega
theorem wins_dual {l : List Int} {need : Int} {m : List Int} (h : vb l need = true) (hm : vmB m l.length = true) : winsB l (tot l - need + 1) (oth m l.length) = !winsB l need m := by
  obtain ⟨v1, v2⟩ := vmB_iff.1 hm
  have hs : wt l (setN m) + wt l (setN (oth m l.length)) = tot l := by
    unfold wt
    rw [wtK_not l (setN m) (setN (oth m l.length)) l.length (Nat.le_refl _) fun i hi => ?_, List.take_length]
    unfold oth
    rw [filK_bit, decide_eq_true hi, Bool.true_and, setN_bit m (fun y hy => (v1 y hy).1) v2]
  have hd := vb_dual h
  unfold winsB winB
  rw [h, hd, hm, oth, filK_vm, ← oth, Bool.true_and, Bool.true_and, Bool.true_and, Bool.true_and, Bool.eq_iff_iff]
  simp
  omega
/-- those who vote for it -/
def yesL (bs : List Int) (k : Nat) : List Int := filK (fun i => decide (bs.getD i 0 = 1)) k
theorem wins_yes {l : List Int} {need : Int} {bs : List Int} (h : vbal l need bs = true) : winsB l need (yesL bs bs.length) = passB l need bs 0 false := by
  obtain ⟨hv, h1, h2⟩ := vbal_iff.1 h
  have hw : wt l (setN (yesL bs bs.length)) = tly l bs 1 := by
    unfold wt tly yesL
    rw [h1]
    refine wtK_tly l bs _ l.length fun i hi => ?_
    rw [filK_bit, decide_eq_true hi, Bool.true_and]
  have := tly_le h 0 (.inl rfl)
  rw [passB_need h (by omega)]
  unfold winsB winB
  rw [hw, hv, yesL, h1, filK_vm, Bool.true_and, Bool.true_and]

/-- merged members -/
theorem mgK_tot (l : List Int) {i k : Nat} (hik : i < k) (hk : k < l.length) : ∀ c, c ≤ l.length → tot (mgK l i k c) = tot (l.take c) + (if i < c then l.getD k 0 else 0) - (if k < c then l.getD k 0 else 0) := by
  intro c
  induction c with
  | zero => intro _; simp [mgK, tot_nil]
  | succ c ih =>
    intro hc
    have h1 := ih (by omega)
    unfold mgK
    rw [tot_append, h1, tot_take l c (by omega)]
    by_cases e1 : c = i
    · subst e1
      rw [if_pos rfl, if_neg (Nat.lt_irrefl c), if_neg (by omega), if_pos (by omega), if_neg (by omega), tot_cons, tot_nil]; omega
    · by_cases e2 : c = k
      · subst e2
        rw [if_neg e1, if_pos rfl, if_pos hik, if_neg (Nat.lt_irrefl c), if_pos (by omega), if_pos (by omega), tot_nil]; omega
      · rw [if_neg e1, if_neg e2, tot_cons, tot_nil]
        have a1 : (i < c + 1) = (i < c) := by apply propext; omega
        have a2 : (k < c + 1) = (k < c) := by apply propext; omega
        simp only [a1, a2]; omega
theorem mgK_len2 (l : List Int) {i k : Nat} (hik : i < k) : ∀ c, (mgK l i k c).length = c - (if k < c then 1 else 0) := by
  intro c
  induction c with
  | zero => simp [mgK]
  | succ c ih =>
    unfold mgK
    rw [List.length_append, ih]
    by_cases e1 : c = i
    · subst e1
      rw [if_pos rfl, if_neg (by omega), if_neg (by omega)]; simp
    · by_cases e2 : c = k
      · subst e2
        rw [if_neg e1, if_pos rfl, if_neg (Nat.lt_irrefl c), if_pos (by omega)]; simp
      · rw [if_neg e1, if_neg e2]
        by_cases h : k < c
        · rw [if_pos h, if_pos (by omega)]; simp; omega
        · rw [if_neg h, if_neg (by omega)]; simp
theorem mgK_all (l : List Int) {i k : Nat} (hik : i < k) (hk : k < l.length) (h : ∀ x ∈ l, 0 ≤ x ∧ x ≤ 100) (hs : l.getD i 0 + l.getD k 0 ≤ 100) : ∀ c, c ≤ l.length → ∀ x ∈ mgK l i k c, 0 ≤ x ∧ x ≤ 100 := by
  intro c
  induction c with
  | zero => intro _ x hx; simp [mgK] at hx
  | succ c ih =>
    intro hc x hx
    unfold mgK at hx
    rw [List.mem_append] at hx
    rcases hx with hx | hx
    · exact ih (by omega) x hx
    · have a := h _ (getD_mem (l := l) (k := i) (by omega))
      have b := h _ (getD_mem (l := l) (k := k) hk)
      have d := h _ (getD_mem (l := l) (k := c) (by omega))
      split at hx
      · rw [List.mem_singleton] at hx; omega
      · split at hx
        · simp at hx
        · rw [List.mem_singleton] at hx; omega
theorem getD_append_left (a b : List Int) (i : Nat) (h : i < a.length) : (a ++ b).getD i 0 = a.getD i 0 := by
  rw [List.getD_eq_getElem?_getD, List.getD_eq_getElem?_getD, List.getElem?_append_left h]
theorem mgK_at (l : List Int) {i k : Nat} (hik : i < k) : ∀ c, i < c → (mgK l i k c).getD i 0 = l.getD i 0 + l.getD k 0 := by
  intro c
  induction c with
  | zero => intro h; omega
  | succ c ih =>
    intro hc
    have hl := mgK_len2 l hik c
    unfold mgK
    by_cases e1 : c = i
    · subst e1
      rw [if_neg (by omega)] at hl
      rw [if_pos rfl, List.getD_eq_getElem?_getD, List.getElem?_append_right (by omega)]
      simp [hl]
    · have hlen : i < (mgK l i k c).length := by
        rw [hl]; split <;> omega
      rw [getD_append_left _ _ _ hlen]
      exact ih (by omega)
/-- all that the law of merged members says -/
theorem mg_all {l : List Int} {need a b : Int} (h : mok l need a b = true) : tot (mgL l need a b) = tot l ∧ (mgL l need a b).length + 1 = l.length ∧ vb (mgL l need a b) (mgN l need a b) = true ∧ (mgL l need a b).getD (min a b).toNat 0 = l.getD a.toNat 0 + l.getD b.toNat 0 ∧ mgN l need a b = need := by
  obtain ⟨hv, ha, hb, hne, ha2, hb2, hs⟩ := mok_iff.1 h
  obtain ⟨p, hp⟩ := Int.eq_ofNat_of_zero_le (show 0 ≤ min a b by omega)
  obtain ⟨q, hq⟩ := Int.eq_ofNat_of_zero_le (show 0 ≤ max a b by omega)
  obtain ⟨e1, e2⟩ := mg_yes h hp hq
  have hpq : p < q := by omega
  have hql : q < l.length := by omega
  obtain ⟨v1, v2, v3, v4, v5⟩ := vb_iff.1 hv
  have hsum : l.getD p 0 + l.getD q 0 = l.getD a.toNat 0 + l.getD b.toNat 0 := by
    by_cases hab : a < b
    · have : a.toNat = p := by omega
      have : b.toNat = q := by omega
      subst_vars; rfl
    · have h1 : b.toNat = p := by omega
      have h2 : a.toNat = q := by omega
      rw [h1, h2]; omega
  have t := mgK_tot l hpq hql l.length (Nat.le_refl _)
  rw [if_pos (by omega), if_pos hql, List.take_length] at t
  have n := mgK_len2 l hpq l.length
  rw [if_pos hql] at n
  rw [e1, e2]
  refine ⟨by omega, by omega, vb_iff.2 ⟨by omega, by omega, mgK_all l hpq hql v3 (by omega) _ (Nat.le_refl _), v4, by omega⟩, ?_, rfl⟩
  rw [hp, Int.toNat_natCast, mgK_at l hpq _ (by omega), hsum]
end Go.Proofs.Ytjdfdikifiljjab
