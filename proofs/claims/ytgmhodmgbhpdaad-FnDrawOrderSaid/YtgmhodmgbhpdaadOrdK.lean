/- Chapter 3: the order of a number is an order whose number it is: plain numbers (a part of XLawO6, for seats without its walks). -/
import Derived.Test.YtgmhodmgbhpdaadOrdC
import Derived.Test.YtgmhodmgbhpdaadRank2
namespace Go.Proofs.Ytgmhodmgbhpdaad
open Go.ChangeShapes Go.WideShapes Go.ChangeAt Go.RowKit Go.Joins Go.Sort
set_option linter.unusedVariables false

theorem filK_inc (p : Nat → Bool) (N : Nat) : (filK p N).Pairwise (· < ·) := by
  induction N with
  | zero => exact List.Pairwise.nil
  | succ N ih =>
    by_cases h : p N = true
    · rw [← filK_yes h, List.pairwise_append]
      refine ⟨ih, List.pairwise_singleton _ _, fun x hx y hy => ?_⟩
      rw [List.mem_singleton.1 hy]
      exact (filK_lt hx).2
    · rw [Bool.not_eq_true] at h
      rw [← filK_no h]; exact ih
theorem inc_at {L : List Int} (h : L.Pairwise (· < ·)) {i j : Nat} (hij : i < j) (hj : j < L.length) : L.getD i 0 < L.getD j 0 := by
  have := List.pairwise_iff_getElem.1 h i j (by omega) hj hij
  rw [List.getD_eq_getElem?_getD, List.getD_eq_getElem?_getD, List.getElem?_eq_getElem hj, List.getElem?_eq_getElem (by omega)]
  exact this
theorem oLs_at (m n : Nat) : ∀ M c, c < M → (oLs m n M).getD c 0 = oEl m n c := by
  intro M
  induction M with
  | zero => intro c h; omega
  | succ M ih =>
    intro c h
    show (oLs m n M ++ [oEl m n M]).getD c 0 = _
    by_cases e : c = M
    · subst e
      rw [List.getD_eq_getElem?_getD, List.getElem?_append_right (by rw [oLs_len]; exact Nat.le_refl _), oLs_len, Nat.sub_self]
      generalize oEl m n c = z
      rfl
    · rw [List.getD_eq_getElem?_getD, List.getElem?_append_left (by rw [oLs_len]; omega), ← List.getD_eq_getElem?_getD, ih c (by omega)]
theorem oLs_inv {m n : Nat} (hm : m ≤ 8) (hn : n < fac m) : ∀ c, c ≤ m → (oLs m n c).Nodup ∧ ∀ x ∈ oLs m n c, (0 ≤ x ∧ x ≤ (m : Int) - 1) ∧ x ∉ mems (oSt m n c).1 := by
  intro c
  induction c with
  | zero => 
    intro _
    refine ⟨List.nodup_nil, fun x hx => ?_⟩
    have hx' : x ∈ ([] : List Int) := hx
    exact absurd hx' List.not_mem_nil
  | succ c ih =>
    intro hc
    obtain ⟨h1, h2⟩ := ih (by omega)
    obtain ⟨k, x, _, hk, hx, hex, hxm, _, _, hms, _⟩ := oSt_step hm hn (show c < m by omega)
    have hlen := (oSt_facts hm hn c (by omega)).1
    have hkl : k < (mems (oSt m n c).1).length := by rw [hlen]; exact hk
    have hxin : (x : Int) ∈ mems (oSt m n c).1 := by rw [← hx]; exact getD_mem hkl
    have hnd : (mems (oSt m n c).1).Nodup := filK_nd _ _
    have hsub : ∀ y, y ∈ mems (oSt m n (c + 1)).1 → y ∈ mems (oSt m n c).1 ∧ y ≠ (x : Int) := by
      intro y hy
      rw [hms] at hy
      have e : mems (oSt m n c).1 = (mems (oSt m n c).1).take k ++ (x : Int) :: (mems (oSt m n c).1).drop (k + 1) := by
        rw [← hx, ← drop_head hkl, List.take_append_drop]
      have hnd2 := hnd
      rw [e, List.nodup_append] at hnd2
      obtain ⟨_, n2, n3⟩ := hnd2
      rcases List.mem_append.1 hy with h | h
      · exact ⟨List.mem_of_mem_take h, n3 _ h _ (List.mem_cons_self ..)⟩
      · exact ⟨List.mem_of_mem_drop h, fun e2 => (List.nodup_cons.1 n2).1 (e2 ▸ h)⟩
    show (oLs m n c ++ [oEl m n c]).Nodup ∧ ∀ y ∈ oLs m n c ++ [oEl m n c], _
    rw [hex]
    refine ⟨?_, fun y hy => ?_⟩
    · rw [List.nodup_append]
      refine ⟨h1, by simp, fun a ha b hb e => ?_⟩
      rw [List.mem_singleton.1 hb] at e
      exact (h2 a ha).2 (e ▸ hxin)
    · rcases List.mem_append.1 hy with h | h
      · exact ⟨(h2 y h).1, fun h3 => (h2 y h).2 (hsub y h3).1⟩
      · rw [List.mem_singleton.1 h]
        exact ⟨⟨by omega, by omega⟩, fun h3 => (hsub _ h3).2 rfl⟩
theorem lft_oSt {m n : Nat} : ∀ c, c ≤ m → lft (oLs m n m) c = (oSt m n c).1 := by
  intro c
  induction c with
  | zero => intro _; show 2 ^ (oLs m n m).length - 1 = 2 ^ m - 1; rw [oLs_len]
  | succ c ih =>
    intro hc
    show mns (lft (oLs m n m) c) ((oLs m n m).getD c 0).toNat = mns (oSt m n c).1 (oEl m n c).toNat
    rw [ih (by omega), oLs_at m n m c (by omega)]
theorem bfr_oSt {m n : Nat} (hm : m ≤ 8) (hn : n < fac m) {c : Nat} (hc : c < m) : bfr (oLs m n m) c = (oSt m n c).2 / fac (m - 1 - c) := by
  obtain ⟨k, x, e, hk, hx, hex, _⟩ := oSt_step hm hn hc
  have hlen := (oSt_facts hm hn c (by omega)).1
  unfold bfr
  have hnd : (mems (oSt m n c).1).Nodup := filK_nd _ _
  rw [lft_oSt c (by omega), oLs_at m n m c hc, hex, ← hx, plc_nodup hnd (by rw [hlen]; exact hk), e, Int.toNat_natCast]
theorem rk_oSt {m n : Nat} (hm : m ≤ 8) (hn : n < fac m) : ∀ c, c ≤ m → rkI (oLs m n m) c + (oSt m n c).2 = n := by
  intro c
  induction c with
  | zero => intro _; show 0 + n = n; omega
  | succ c ih =>
    intro hc
    have h1 := ih (by omega)
    show rkI (oLs m n m) c + bfr (oLs m n m) c * fac ((oLs m n m).length - 1 - c) + (oSt m n c).2 % fac (m - 1 - c) = n
    rw [bfr_oSt hm hn (show c < m by omega), oLs_len]
    have := Nat.div_add_mod (oSt m n c).2 (fac (m - 1 - c))
    rw [Nat.mul_comm] at this
    omega
theorem ord_ok {n m : Int} (h : oOk n m) : rOk (ordL n m) ∧ ((ordL n m).length : Int) = m ∧ rnk (ordL n m) = n := by
  obtain ⟨m, rfl⟩ := Int.eq_ofNat_of_zero_le (show 0 ≤ m by have := h.1; omega)
  obtain ⟨n, rfl⟩ := Int.eq_ofNat_of_zero_le h.2.1
  obtain ⟨hm8, hm1, hnf⟩ := oOk_nat h
  rw [ordL_yes h]
  obtain ⟨i1, i2⟩ := oLs_inv hm8 hnf m (Nat.le_refl _)
  have hr : rOk (oLs m n m) := by
    refine ⟨vo_iff.2 ⟨by rw [oLs_len]; omega, vmB_iff.2 ⟨fun x hx => ?_, i1⟩⟩, by rw [oLs_len]; exact hm8⟩
    rw [oLs_len]; exact (i2 x hx).1
  refine ⟨hr, by rw [oLs_len], ?_⟩
  have h1 := rk_oSt hm8 hnf m (Nat.le_refl _)
  have h2 := (oSt_facts hm8 hnf m (Nat.le_refl _)).2.1
  rw [Nat.sub_self] at h2
  have h3 : fac 0 = 1 := rfl
  rw [rnk_yes hr, oLs_len]
  omega
end Go.Proofs.Ytgmhodmgbhpdaad
