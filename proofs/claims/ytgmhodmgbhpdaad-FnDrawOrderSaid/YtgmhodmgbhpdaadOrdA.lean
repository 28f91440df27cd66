/- Chapter 3: orders of numbers, in plain numbers; an append of a list, and where it lies. -/
import Derived.Test.YtgmhodmgbhpdaadAppI
import Derived.Test.YtgmhodmgbhpdaadRank1
namespace Go.Proofs.Ytgmhodmgbhpdaad
open Go.ChangeShapes Go.WideShapes Go.ChangeAt Go.RowKit Go.Joins Go.Sort
set_option linter.unusedVariables false

/-- an append of a list to a list of the call's own; where it lies afterwards, and what else stays -/
theorem append_list_at {ops : Array Oper} {rest : List Oper} {o : Oper} {a : Act} {Q : Exit → Act → World → Prop} (hgd : o.guard = none) (s x : Operand)
    (ho : o.op = .call { callee := .builtin .append, args := #[s, x], argTypes := #[25, 25] }) (base : Nat) (w1 : World) (b : Nat) (n m cap cx g off : Nat) (l1 l : List Int)
    (hs : a.eval s = .slice (some ⟨b, 0, none⟩) n cap) (hx : a.eval x = .slice (some ⟨g, off, none⟩) m cx) (hn : l1.length = n) (hm : l.length = m) (R : Row base w1 (some ⟨b, 0, none⟩) cap l1) (hl1 : n ≤ 1000000) (hl : m ≤ 1000000) (h0 : 0 < m) (hb : base ≤ w1.heap.size)
    (hc : ∀ i, i < l.length → w1.cell? ⟨g, off + i, none⟩ = some (.int .i64 (l.getD i 0)))
    (h : ∀ g cap' w', Row base w' (some ⟨g, 0, none⟩) cap' (l1 ++ l) → Below base w1 w' → (g = b ∨ w1.heap.size ≤ g) → (∀ k, k < w1.heap.size → k ≠ b → w'.heap[k]? = w1.heap[k]?) → wpList Try.prog ops Q rest (a.put o.dst (.slice (some ⟨g, 0, none⟩) (n + m) cap')) w') :
    wpList Try.prog ops Q (o :: rest) a w1 := by
  subst hn hm
  obtain ⟨i0, hi, hz0, hz1, hz2⟩ := info_parts Try.infoInt
  refine wpList_append_own_at _ hgd s x 25 ho base 3 i0 (.int .i64 0) 1 8 Try.underlying25 hi hz0 hz1 hz2 rfl (by decide) _ _ _ hs R.own ⟨g, off, none⟩ l.length cx (l.map (Value.int .i64)) hx (by simp) ?_ ?_ (by unfold maxLen; omega) (by omega) hb ?_
  · intro j u hj
    rw [List.getElem?_map] at hj
    by_cases hjl : j < l.length
    · have := hc j hjl
      rw [List.getD_eq_getElem?_getD] at this
      rw [List.getElem?_eq_getElem hjl] at hj this
      simp at hj this
      subst hj
      by_cases hj0 : j = 0
      · subst hj0; simpa [Addr.add] using this
      · simpa [Addr.add, hj0] using this
    · rw [List.getElem?_eq_none (by omega)] at hj; simp at hj
  · intro u hu
    obtain ⟨x, _, rfl⟩ := List.mem_map.1 hu
    rfl
  · intro v' w2 hown hgrow hnil hat
    obtain ⟨g', cap', rfl⟩ := ownsRow_form hown (by omega)
    refine h g' cap' w2 ?_ ((Below.refl _ _).grown hgrow hb fun k hk => (World.ownsRow.lt R.own k hk).1) ?_ ?_
    · show w2.ownsRow base 3 1 (.slice (some ⟨g', 0, none⟩) (l1 ++ l).length cap') (l1 ++ l).length ((l1 ++ l).map (Value.int .i64))
      rw [List.map_append, List.length_append]; exact hown
    · simp [Value.ownBlock] at hat
      rcases hat with e | e
      · exact .inl e
      · right; omega
    · intro k hk hkb
      exact hgrow.block k hk (by simp [Value.ownBlock]; omega)

/-- who is left, and the number that is left, after some turns -/
def oSt (m n : Nat) : Nat → Nat × Nat
  | 0 => (2 ^ m - 1, n)
  | c + 1 => (mns (oSt m n c).1 ((mems (oSt m n c).1).getD ((oSt m n c).2 / fac (m - 1 - c)) 0).toNat, (oSt m n c).2 % fac (m - 1 - c))
def oEl (m n c : Nat) : Int := (mems (oSt m n c).1).getD ((oSt m n c).2 / fac (m - 1 - c)) 0
def oLs (m n : Nat) : Nat → List Int
  | 0 => []
  | c + 1 => oLs m n c ++ [oEl m n c]
theorem oLs_len (m n c : Nat) : (oLs m n c).length = c := by
  induction c with
  | zero => rfl
  | succ c ih => show (oLs m n c ++ _).length = _; rw [List.length_append, ih]; rfl
theorem mems_bit {s : Nat} {x : Int} (h : x ∈ mems s) : ∃ i : Nat, i < 20 ∧ s.testBit i = true ∧ x = (i : Int) := filK_mem.1 h
theorem oSt_facts {m n : Nat} (hm : m ≤ 8) (hn : n < fac m) : ∀ c, c ≤ m → (mems (oSt m n c).1).length = m - c ∧ (oSt m n c).2 < fac (m - c) ∧ (oSt m n c).1 < 2 ^ m := by
  intro c
  induction c with
  | zero =>
    intro _
    refine ⟨?_, hn, ?_⟩
    · show (mems (2 ^ m - 1)).length = m; rw [mems_nums (by omega), numsO_len]
    · show 2 ^ m - 1 < 2 ^ m; have := Nat.two_pow_pos m; omega
  | succ c ih =>
    intro hc
    obtain ⟨h1, h2, h3⟩ := ih (by omega)
    have e : m - c = (m - 1 - c) + 1 := by omega
    rw [e, fac_succ] at h2
    have hf := fac_pos (m - 1 - c)
    have hk : (oSt m n c).2 / fac (m - 1 - c) < m - c := by
      rw [e]; exact (Nat.div_lt_iff_lt_mul hf).2 h2
    refine ⟨?_, ?_, ?_⟩
    · show (mems (mns _ _)).length = _
      rw [mems_mns (by rw [h1]; exact hk), List.length_append, List.length_take, List.length_drop, h1]; omega
    · show (oSt m n c).2 % fac (m - 1 - c) < fac (m - (c + 1))
      rw [show m - (c + 1) = m - 1 - c by omega]; exact Nat.mod_lt _ hf
    · exact Nat.lt_of_le_of_lt (Nat.sub_le _ _) h3
theorem oSt_step {m n : Nat} (hm : m ≤ 8) (hn : n < fac m) {c : Nat} (hc : c < m) : ∃ k x : Nat, (oSt m n c).2 / fac (m - 1 - c) = k ∧ k < m - c ∧ (mems (oSt m n c).1).getD k 0 = (x : Int) ∧ oEl m n c = (x : Int) ∧ x < m ∧ 2 ^ x ≤ (oSt m n c).1 ∧
    (oSt m n (c + 1)).1 = mns (oSt m n c).1 x ∧ mems (oSt m n (c + 1)).1 = (mems (oSt m n c).1).take k ++ (mems (oSt m n c).1).drop (k + 1) ∧ (oSt m n (c + 1)).2 = (oSt m n c).2 % fac (m - 1 - c) := by
  obtain ⟨h1, h2, h3⟩ := oSt_facts hm hn c (by omega)
  have e : m - c = (m - 1 - c) + 1 := by omega
  rw [e, fac_succ] at h2
  have hk : (oSt m n c).2 / fac (m - 1 - c) < m - c := by rw [e]; exact (Nat.div_lt_iff_lt_mul (fac_pos _)).2 h2
  have hkl : (oSt m n c).2 / fac (m - 1 - c) < (mems (oSt m n c).1).length := by rw [h1]; exact hk
  obtain ⟨x, _, hx, he⟩ := mems_bit (getD_mem hkl)
  have hxm : x < m := by
    by_cases h : x < m
    · exact h
    · have := Nat.testBit_lt_two_pow (Nat.lt_of_lt_of_le h3 (pow_le (show m ≤ x by omega)))
      rw [this] at hx; cases hx
  have hmm := mems_mns hkl
  refine ⟨_, x, rfl, hk, he, he, hxm, Nat.ge_two_pow_of_testBit hx, ?_, hmm, rfl⟩
  show mns _ _ = _
  rw [he, Int.toNat_natCast]
def oOk (n m : Int) : Prop := (1 ≤ m ∧ m ≤ 8) ∧ 0 ≤ n ∧ n ≤ fI m - 1
instance (n m : Int) : Decidable (oOk n m) := by unfold oOk; infer_instance
def ordL (n m : Int) : List Int := if oOk n m then oLs m.toNat n.toNat m.toNat else []
theorem ordL_yes {n m : Nat} (h : oOk n m) : ordL n m = oLs m n m := by unfold ordL; rw [if_pos h, Int.toNat_natCast, Int.toNat_natCast]
theorem ordL_no {n m : Int} (h : ¬ oOk n m) : ordL n m = [] := if_neg h
theorem ordL_len (n m : Int) : (ordL n m).length ≤ 8 := by
  unfold ordL; split
  · rename_i h; rw [oLs_len]; have := h.1; omega
  · simp
theorem oOk_nat {n m : Nat} (h : oOk n m) : m ≤ 8 ∧ 1 ≤ m ∧ n < fac m := by
  obtain ⟨⟨a, b⟩, c, d⟩ := h
  have := fac_pos m
  unfold fI at d
  rw [Int.toNat_natCast] at d
  omega
end Go.Proofs.Ytgmhodmgbhpdaad
