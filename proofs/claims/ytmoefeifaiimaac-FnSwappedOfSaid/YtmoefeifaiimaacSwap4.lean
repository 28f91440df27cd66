/- Exchanged digits in plain numbers: what every one of swapL is. -/
import Derived.Test.YtmoefeifaiimaacSwap3
namespace Go.Proofs.Ytmoefeifaiimaac
set_option linter.unusedVariables false

theorem getD_el (l : List Int) (i : Nat) (h : i < l.length) : l.getD i 0 = l[i] := by rw [List.getD_eq_getElem?_getD, List.getElem?_eq_getElem h]; rfl
/-- the digits of the number of digits -/
theorem rdig_val (l : List Int) (hin : ∀ x ∈ l, 0 ≤ x ∧ x ≤ 9) (h0 : 0 < l.length) (hf : l.length = 1 ∨ 0 < l.getD 0 0) : rdig (valL l 0).toNat = l.reverse := by
  obtain ⟨m, hm⟩ : ∃ m, l.length = m := ⟨_, rfl⟩
  induction m generalizing l with
  | zero => omega
  | succ m ih =>
    obtain ⟨a, t, rfl⟩ : ∃ a t, l = a ++ [t] := ⟨l.dropLast, l.getLast (by intro h; subst h; simp at h0), (List.dropLast_concat_getLast _).symm⟩
    have ht := hin t (by simp)
    rw [valL_snoc, List.reverse_append, List.reverse_singleton]
    rcases a with _ | ⟨c, a⟩
    · simp only [valL, List.reverse_nil]
      rw [rdig_small _ (by omega), Int.toNat_of_nonneg (by omega)]; simp
    · have hin' : ∀ x ∈ c :: a, 0 ≤ x ∧ x ≤ 9 := fun x hx => hin x (List.mem_append_left _ hx)
      have hc : 0 < c := by
        rcases hf with h | h
        · simp at h
        · simpa using h
      have hv := valL_in (c :: a) 0 hin' (Int.le_refl _)
      have hpos : 0 < valL (c :: a) 0 := by
        have h1 := valL_lin a 0 c
        have h2 := valL_in a 0 (fun x hx => hin' x (by simp [hx])) (Int.le_refl _)
        have h3 : (0 : Int) < 10 ^ a.length := Int.pow_pos (by omega)
        have h4 : 0 < c * 10 ^ a.length := Int.mul_pos hc h3
        show 0 < valL a (10 * 0 + c)
        rw [show (10 * 0 + c : Int) = 0 + c by omega, h1]; omega
      have hi := ih (c :: a) hin' (by simp) (.inr (by simpa using hc)) (by simp at hm ⊢; omega)
      obtain ⟨v, ev⟩ : ∃ v, v = valL (c :: a) 0 := ⟨_, rfl⟩
      rw [← ev] at hi hpos ⊢
      rw [rdig_big _ (by omega), show (10 * v + t).toNat / 10 = v.toNat by omega, hi, show (((10 * v + t).toNat % 10 : Nat) : Int) = t by omega]
      rfl
theorem ssum_set2 (l : List Int) (k : Nat) (h : k + 1 < l.length) : ssum ((l.set k (l.getD (k + 1) 0)).set (k + 1) (l.getD k 0)) = ssum l := by
  rw [swap_set l k h]
  conv => rhs; rw [swap_split l k h]
  simp only [ssum_append, ssum]; omega
theorem set2_back (l : List Int) (k : Nat) (h : k + 1 < l.length) (l2 : List Int) (e : l2 = (l.set k (l.getD (k + 1) 0)).set (k + 1) (l.getD k 0)) : (l2.set k (l2.getD (k + 1) 0)).set (k + 1) (l2.getD k 0) = l := by
  have h1 : l2.getD (k + 1) 0 = l.getD k 0 := by rw [e, set2_getD l k h, if_pos rfl]
  have h2 : l2.getD k 0 = l.getD (k + 1) 0 := by rw [e, set2_getD l k h, if_neg (by omega), if_pos rfl]
  have hl : l2.length = l.length := by rw [e]; simp
  rw [h1, h2]
  apply List.ext_getElem (by simp [hl])
  intro i hi1 hi2
  have hq : ((l2.set k (l.getD k 0)).set (k + 1) (l.getD (k + 1) 0)).getD i 0 = l.getD i 0 := by
    rw [set2_getD l2 k (by omega)]
    by_cases e1 : i = k + 1
    · rw [if_pos e1, e1]
    · rw [if_neg e1]
      by_cases e2 : i = k
      · rw [if_pos e2, e2]
      · rw [if_neg e2, e, set2_getD l k h, if_neg e1, if_neg e2]
  have a1 := getD_el _ _ hi1
  have a2 := getD_el _ _ hi2
  rw [← a1, hq, a2]
theorem mem_swapL (n : Int) (r : List Int) (k : Nat) (x : Int) : x ∈ swapL n r k ↔ ∃ j, j < k ∧ x ∈ swapAt n r (r.length - 1 - j) := by
  induction k with
  | zero => simp [swapL]
  | succ k ih =>
    rw [swapL, List.mem_append, ih]
    constructor
    · rintro (⟨j, hj, h⟩ | h)
      · exact ⟨j, by omega, h⟩
      · exact ⟨k, by omega, h⟩
    · rintro ⟨j, hj, h⟩
      by_cases e : j = k
      · subst e; exact .inr h
      · exact .inl ⟨j, by omega, h⟩
/-- a difference of exchanged digits: nines divide it, elevens don't -/
theorem swap_diff (d : Int) (j : Nat) (h0 : d ≠ 0) (h1 : -9 ≤ d) (h2 : d ≤ 9) (hj : j ≤ 6) : 9 * d * 10 ^ j ≠ 0 ∧ (9 * d * 10 ^ j).tmod 9 = 0 ∧ (9 * d * 10 ^ j).tmod 11 ≠ 0 := by
  have key : ∀ j : Fin 7, ∀ i : Fin 19, ((i.val : Int) - 9 ≠ 0) → 9 * ((i.val : Int) - 9) * 10 ^ j.val ≠ 0 ∧ (9 * ((i.val : Int) - 9) * 10 ^ j.val).tmod 9 = 0 ∧ (9 * ((i.val : Int) - 9) * 10 ^ j.val).tmod 11 ≠ 0 := by decide +kernel
  have hi : (((d + 9).toNat : Nat) : Int) - 9 = d := by omega
  have := key ⟨j, by omega⟩ ⟨(d + 9).toNat, by omega⟩
  simp only [hi] at this
  exact this h0
theorem pow6_in (k : Nat) (h : k ≤ 6) : (10 : Int) ^ k ≤ 1000000 := by
  rcases k with _|_|_|_|_|_|_|k <;> first | decide | omega
/-- every one of the exchanges -/
theorem swapL_all (n : Int) (h : VA n) (x : Int) (hx : x ∈ swapL n (rdig n.toNat) ((rdig n.toNat).length - 1)) :
    VA x ∧ x - n ≠ 0 ∧ (x - n).tmod 9 = 0 ∧ (x - n).tmod 11 ≠ 0 ∧ ssum (rdig x.toNat) = ssum (rdig n.toNat) ∧ n ∈ swapL x (rdig x.toNat) ((rdig x.toNat).length - 1) := by
  obtain ⟨n1, n2⟩ := id h
  have hlen := rdig_amt n h
  have hin := rdig_in n.toNat
  have hfirst : 1 < (rdig n.toNat).length → 0 < (rdig n.toNat).reverse.getD 0 0 := fun hh => rdig_first _ (by
    by_cases h0 : n.toNat = 0
    · rw [h0, rdig_small 0 (by omega)] at hh; simp at hh
    · omega)
  have hval := valL_rdig n.toNat
  rw [Int.toNat_of_nonneg n1] at hval
  have hmax : (rdig n.toNat).length = 7 → n = 1000000 := fun h7 => by
    by_cases hn : n.toNat < 10 ^ 6
    · have := rdig_len 5 n.toNat hn; omega
    · omega
  obtain ⟨l, hl⟩ : ∃ l, l = (rdig n.toNat).reverse := ⟨_, rfl⟩
  have hr : rdig n.toNat = l.reverse := by rw [hl, List.reverse_reverse]
  rw [← hl] at hval hfirst
  rw [hr] at hx hlen hin hfirst hmax ⊢
  rw [List.length_reverse] at hx hlen hfirst hmax
  have hin' : ∀ x ∈ l, 0 ≤ x ∧ x ≤ 9 := fun y hy => hin y (List.mem_reverse.2 hy)
  obtain ⟨k, hk, hx⟩ := (mem_swapL _ _ _ _).1 hx
  have hlt : k + 1 < l.length := by omega
  rw [swapAt_rev n l k hlt] at hx
  by_cases hc : l.getD (k + 1) 0 - l.getD k 0 ≠ 0 ∧ ¬ (k = 0 ∧ l.getD (k + 1) 0 = 0)
  · rw [if_pos hc, List.mem_singleton] at hx
    have h0 := hin' _ (getD_in (show k < l.length by omega))
    have h1 := hin' _ (getD_in hlt)
    have hd := swap_diff (l.getD (k + 1) 0 - l.getD k 0) (l.length - 2 - k) hc.1 (by omega) (by omega) (by omega)
    obtain ⟨l2, e2⟩ : ∃ l2, l2 = (l.set k (l.getD (k + 1) 0)).set (k + 1) (l.getD k 0) := ⟨_, rfl⟩
    have hlen2 : l2.length = l.length := by rw [e2]; simp
    have hv2 := swap_val l k hlt
    rw [hval, ← e2, ← hx] at hv2
    have hin2 : ∀ x ∈ l2, 0 ≤ x ∧ x ≤ 9 := fun x hx => by
      rw [e2] at hx
      rcases List.mem_or_eq_of_mem_set hx with hx | hx
      · rcases List.mem_or_eq_of_mem_set hx with hx | hx
        · exact hin' x hx
        · rw [hx]; exact h1
      · rw [hx]; exact h0
    have hf2 : 0 < l2.getD 0 0 := by
      rw [e2, set2_getD l k hlt, if_neg (by omega)]
      by_cases e : k = 0
      · rw [if_pos e.symm]
        have : l.getD (k + 1) 0 ≠ 0 := fun e' => hc.2 ⟨e, e'⟩
        omega
      · rw [if_neg (Ne.symm e)]; exact hfirst (by omega)
    have hrd := rdig_val l2 hin2 (by omega) (.inr hf2)
    rw [hv2] at hrd
    have hin3 := valL_in l2 0 hin2 (Int.le_refl _)
    rw [hv2, hlen2] at hin3
    have hback := set2_back l k hlt l2 e2
    have hss := ssum_set2 l k hlt
    rw [← e2] at hss
    have hx6 : l.length ≤ 6 := by
      by_cases h7 : l.length = 7
      · have hn := hmax h7
        have hr7 : rdig n.toNat = [0,0,0,0,0,0,1] := by
          rw [hn]; show rdig 1000000 = _
          rw [rdig_big 1000000 (by omega), rdig_big (1000000 / 10) (by omega), rdig_big (1000000 / 10 / 10) (by omega), rdig_big (1000000 / 10 / 10 / 10) (by omega), rdig_big (1000000 / 10 / 10 / 10 / 10) (by omega), rdig_big (1000000 / 10 / 10 / 10 / 10 / 10) (by omega), rdig_small (1000000 / 10 / 10 / 10 / 10 / 10 / 10) (by omega)]; rfl
        rw [hr] at hr7
        have hl7 : l = [1,0,0,0,0,0,0] := by rw [← List.reverse_reverse l, hr7]; rfl
        subst hl7
        exfalso
        have hk5 : k ≤ 5 := by simp at hlt; omega
        rcases k with _|_|_|_|_|_|k
        · exact hc.2 ⟨rfl, rfl⟩
        · exact hc.1 rfl
        · exact hc.1 rfl
        · exact hc.1 rfl
        · exact hc.1 rfl
        · exact hc.1 rfl
        · omega
      · omega
    have hp6 := pow6_in l.length hx6
    have hva : VA x := ⟨hin3.1, by omega⟩
    refine ⟨hva, ?_, ?_, ?_, ?_, ?_⟩
    · rw [hx]; intro e; exact hd.1 (by omega)
    · rw [show x - n = 9 * (l.getD (k + 1) 0 - l.getD k 0) * 10 ^ (l.length - 2 - k) by omega]; exact hd.2.1
    · rw [show x - n = 9 * (l.getD (k + 1) 0 - l.getD k 0) * 10 ^ (l.length - 2 - k) by omega]; exact hd.2.2
    · rw [hrd, ssum_reverse, ssum_reverse, hss]
    · rw [hrd, List.length_reverse]
      refine (mem_swapL _ _ _ _).2 ⟨k, by omega, ?_⟩
      have hlt2 : k + 1 < l2.length := by omega
      have g1 : l2.getD (k + 1) 0 = l.getD k 0 := by rw [e2, set2_getD l k hlt, if_pos rfl]
      have g2 : l2.getD k 0 = l.getD (k + 1) 0 := by rw [e2, set2_getD l k hlt, if_neg (by omega), if_pos rfl]
      rw [swapAt_rev x l2 k hlt2, g1, g2, hlen2, if_pos ⟨by omega, fun ⟨e, e'⟩ => by subst e; have := hfirst (by omega); omega⟩, List.mem_singleton, hx]
      rw [show l.getD k 0 - l.getD (k + 1) 0 = -(l.getD (k + 1) 0 - l.getD k 0) by omega, Int.mul_neg, Int.neg_mul]; omega
  · rw [if_neg hc] at hx; simp at hx
end Go.Proofs.Ytmoefeifaiimaac
