/- Exchanged digits: the model's contract. -/
import Derived.Test.YtmoefeifaiimaacSwap1
import Derived.Maps.AppendAt
namespace Go.Proofs.Ytmoefeifaiimaac
open Go.ChangeShapes Go.WideShapes Go.ChangeAt Go.RowKit Go.Joins
set_option linter.unusedVariables false

theorem rdig_first (n : Nat) : 1 ≤ n → 0 < (rdig n).reverse.getD 0 0 := by
  induction n using Nat.strongRecOn with
  | _ n ih =>
    intro h1
    by_cases h : n < 10
    · rw [rdig_small n h]; simp; omega
    · have := ih (n / 10) (by omega) (by omega)
      have hne := rdig_ne (n / 10)
      rw [rdig_big n (by omega), List.reverse_cons]
      rcases hq : (rdig (n / 10)).reverse with _ | ⟨a, t⟩
      · exact absurd (List.reverse_eq_nil_iff.1 hq) hne
      · rw [hq] at this; simpa using this
theorem swap_split (l : List Int) (k : Nat) (h : k + 1 < l.length) : l = l.take k ++ [l.getD k 0, l.getD (k + 1) 0] ++ l.drop (k + 2) := by
  have h1 : l.drop k = l.getD k 0 :: l.drop (k + 1) := by
    rw [List.drop_eq_getElem_cons (by omega)]; simp [List.getD_eq_getElem?_getD, List.getElem?_eq_getElem (show k < l.length by omega)]
  have h2 : l.drop (k + 1) = l.getD (k + 1) 0 :: l.drop (k + 2) := by
    rw [List.drop_eq_getElem_cons h]; simp [List.getD_eq_getElem?_getD, List.getElem?_eq_getElem h]
  conv => lhs; rw [← List.take_append_drop k l, h1, h2]
  simp
theorem swap_set (l : List Int) (k : Nat) (h : k + 1 < l.length) (a b : Int) : (l.set k a).set (k + 1) b = l.take k ++ [a, b] ++ l.drop (k + 2) := by
  apply List.ext_getElem?
  intro i
  rw [List.getElem?_set, List.getElem?_set]
  simp only [List.append_assoc, List.getElem?_append, List.length_take, List.length_set]
  rw [Nat.min_eq_left (by omega)]
  by_cases h1 : i < k
  · rw [if_neg (by omega), if_neg (by omega), if_pos h1, List.getElem?_take_of_lt h1]
  · rw [if_neg h1]
    by_cases h2 : i = k
    · subst h2; simp; omega
    · by_cases h3 : i = k + 1
      · subst h3; simp; omega
      · rw [if_neg (by omega), if_neg (by omega)]
        simp only [List.length_cons, List.length_nil]
        rw [if_neg (by omega), List.getElem?_drop]; congr 1; omega
theorem set2_getD (l : List Int) (k : Nat) (h : k + 1 < l.length) (a b : Int) (j : Nat) : ((l.set k a).set (k + 1) b).getD j 0 = if j = k + 1 then b else if j = k then a else l.getD j 0 := by
  rw [List.getD_eq_getElem?_getD, List.getD_eq_getElem?_getD, List.getElem?_set, List.getElem?_set]
  by_cases e1 : k + 1 = j
  · subst e1; simp [h]
  · rw [if_neg e1, if_neg (Ne.symm e1)]
    by_cases e2 : k = j
    · subst e2; simp [show k < l.length by omega]
    · rw [if_neg e2, if_neg (Ne.symm e2)]
theorem swap_val (l : List Int) (k : Nat) (h : k + 1 < l.length) : valL ((l.set k (l.getD (k + 1) 0)).set (k + 1) (l.getD k 0)) 0 = valL l 0 + 9 * (l.getD (k + 1) 0 - l.getD k 0) * 10 ^ (l.length - 2 - k) := by
  rw [swap_set l k h, valL_swap, ← swap_split l k h, List.length_drop, show l.length - (k + 2) = l.length - 2 - k by omega]
theorem rev_getD (l : List Int) (i : Nat) (h : i < l.length) : l.reverse.getD i 0 = l.getD (l.length - 1 - i) 0 := by
  rw [List.getD_eq_getElem?_getD, List.getD_eq_getElem?_getD, List.getElem?_reverse h]
theorem swapAt_rev (n : Int) (l : List Int) (k : Nat) (h : k + 1 < l.length) : swapAt n l.reverse (l.reverse.length - 1 - k) =
    if l.getD (k + 1) 0 - l.getD k 0 ≠ 0 ∧ ¬ (k = 0 ∧ l.getD (k + 1) 0 = 0) then [n + 9 * (l.getD (k + 1) 0 - l.getD k 0) * 10 ^ (l.length - 2 - k)] else [] := by
  unfold swapAt
  rw [List.length_reverse, rev_getD l _ (by omega), rev_getD l _ (by omega), show l.length - 1 - (l.length - 1 - k - 1) = k + 1 by omega, show l.length - 1 - (l.length - 1 - k) = k by omega, show l.length - 1 - k - 1 = l.length - 2 - k by omega]
  have e : (l.length - 1 - k = l.length - 1) ↔ k = 0 := by omega
  simp only [e]

/-- an append of a list in memory to a list of the call's own that is still empty -/
theorem append_all {ops : Array Oper} {rest : List Oper} {o : Oper} {a : Act} {Q : Exit → Act → World → Prop} (hgd : o.guard = none) (s x : Operand)
    (ho : o.op = .call { callee := .builtin .append, args := #[s, x], argTypes := #[27, 27] }) (base : Nat) (w1 : World) (sa : Option Addr) (cap cx g off : Nat) (l : List Int)
    (hs : a.eval s = .slice sa 0 cap) (hx : a.eval x = .slice (some ⟨g, off, none⟩) l.length cx) (R : Row base w1 sa cap []) (hl : l.length ≤ 1000000) (h0 : 0 < l.length) (hb : base ≤ w1.heap.size)
    (hc : ∀ i, i < l.length → w1.cell? ⟨g, off + i, none⟩ = some (.int .i64 (l.getD i 0)))
    (h : ∀ g cap' w', Row base w' (some ⟨g, 0, none⟩) cap' l → Below base w1 w' → wpList Try.prog ops Q rest (a.put o.dst (.slice (some ⟨g, 0, none⟩) l.length cap')) w') :
    wpList Try.prog ops Q (o :: rest) a w1 := by
  obtain ⟨i0, hi, hz0, hz1, hz2⟩ := info_parts Try.infoInt
  refine wpList_append_own _ hgd s x 27 ho base 3 i0 (.int .i64 0) 1 8 Try.underlying27 hi hz0 hz1 hz2 rfl (by decide) (.slice sa 0 cap) 0 [] hs R.own ⟨g, off, none⟩ l.length cx (l.map (Value.int .i64)) hx (by simp) ?_ ?_ (by unfold maxLen; omega) (by omega) hb ?_
  · intro j u hj
    rw [List.getElem?_map] at hj
    by_cases hjl : j < l.length
    · have := hc j hjl
      rw [List.getD_eq_getElem?_getD] at this
      rw [List.getElem?_eq_getElem hjl] at hj this
      simp at hj this
      subst hj
      by_cases hj0 : j = 0
      · subst hj0; simpa [Addr.add] using this
      · simpa [Addr.add, hj0] using this
    · rw [List.getElem?_eq_none (by omega)] at hj; simp at hj
  · intro u hu
    obtain ⟨x, _, rfl⟩ := List.mem_map.1 hu
    rfl
  · intro v' w2 hown hgrow hnil
    rw [Nat.zero_add, List.nil_append] at hown
    obtain ⟨g', cap', rfl⟩ := ownsRow_form hown h0
    refine h g' cap' w2 hown ((Below.refl _ _).grown hgrow hb fun k hk => ?_)
    exact (World.ownsRow.lt R.own k hk).1

/-- an append of one number to a list of the call's own; where the list lies afterwards, and what else stays -/
theorem append_int_at {ops : Array Oper} {rest : List Oper} {o : Oper} {a : Act} {Q : Exit → Act → World → Prop} (hgd : o.guard = none) (s x : Operand)
    (ho : o.op = .call { callee := .builtin .append, args := #[s, x], argTypes := #[27, 27] }) (base : Nat) (w1 : World) (b : Nat) (cap : Nat) (l : List Int) (v : Int) (T : TypeId)
    (hs : a.eval s = .slice (some ⟨b, 0, none⟩) l.length cap) (hx : a.eval x = .slice (some ⟨w1.heap.size, 0, none⟩) 1 1) (R : Row base w1 (some ⟨b, 0, none⟩) cap l) (hl : l.length ≤ 1000000) (hb : base ≤ w1.heap.size)
    (h : ∀ g cap' w', Row base w' (some ⟨g, 0, none⟩) cap' (l ++ [v]) → Below base w1 w' → (g = b ∨ w1.heap.size ≤ g) → (∀ k, k < w1.heap.size → k ≠ b → w'.heap[k]? = w1.heap[k]?) → wpList Try.prog ops Q rest (a.put o.dst (.slice (some ⟨g, 0, none⟩) (l.length + 1) cap')) w') :
    wpList Try.prog ops Q (o :: rest) a (w1.alloc (.cells #[.int .i64 v] T)) := by
  obtain ⟨i0, hi, hz0, hz1, hz2⟩ := info_parts Try.infoInt
  have hA : Below base w1 (w1.alloc (.cells #[.int .i64 v] T)) := (Below.refl _ _).alloc hb _
  refine wpList_append_own_at _ hgd s x 27 ho base 3 i0 (.int .i64 0) 1 8 Try.underlying27 hi hz0 hz1 hz2 rfl (by decide) _ _ _ hs (R.own.alloc _) ⟨w1.heap.size, 0, none⟩ 1 1 [.int .i64 v] hx rfl (one_news _ _ _) (by simp [Value.oneCell']) (by unfold maxLen; omega) (by omega) (by first | omega | (simp; done) | (simp; omega)) ?_
  intro v' w2 hown hgrow hnil hat
  obtain ⟨g, cap', rfl, hR⟩ := Row.grown hown rfl
  refine h g cap' w2 hR (hA.grown hgrow (by first | omega | (simp; done) | (simp; omega)) fun k hk => ?_) ?_ ?_
  · exact (World.ownsRow.lt R.own k hk).1
  · simp [Value.ownBlock] at hat
    rcases hat with e | e
    · exact .inl e
    · right; omega
  · intro k hk hkb
    have := hgrow.block k (by simp; omega) (by simp [Value.ownBlock]; omega)
    rw [this, Below.heap_alloc _ _ _ hk]

theorem copyInts_any (sa : Option Addr) (cap : Nat) (l : List Int) (w : World) (h : Lst w sa l) (hl : l.length ≤ 1000) (h0 : 0 < l.length) :
    Calls Try.prog 56 #[.slice sa l.length cap] w (RetList l w) := by
  rcases h with h | ⟨g, off, rfl, hg, hc⟩
  · subst h; simp at h0
  have HC := hide (show ∀ i, i < l.length → (w.alloc (.cells #[] 3)).cell? ⟨g, off + i, none⟩ = some (.int .i64 (l.getD i 0)) from fun i hi => (((Below.refl _ w).alloc (Nat.le_refl _) _).cell (p := ⟨g, off + i, none⟩) hg).trans (hc i hi))
  clear hc
  go_enter Try.func56, Try.ntmps56
  go_wp2_with (first | (at_builtin; refine append_all rfl _ _ rfl w.heap.size _ _ _ cap g off l rfl rfl (Row.made _ w (Nat.le_refl _)) (by omega) h0 (by simp) HC.out ?_; intro g2 cap2 w2 R2 hb2))
  have HR2 := hide R2
  have B2 := hide (((Below.refl w.heap.size w).alloc (Nat.le_refl _) (.cells #[] 3)).trans hb2)
  clear R2 hb2 HC
  go_wp2
  go_ret
  exact ⟨_, _, rfl, HR2.out, B2.out⟩
set_option maxHeartbeats 4000000 in
theorem swaps_any (n : Int) (w : World) (h : VA n) : Calls Try.prog 45 #[.int .i64 n] w (RetList (swapL n (rdig n.toNat) ((rdig n.toNat).length - 1)) w) := by
  obtain ⟨n1, n2⟩ := id h
  have hlen := rdig_amt n h
  have hin := rdig_in n.toNat
  have hne : 1 ≤ (rdig n.toNat).length := by
    have := rdig_ne n.toNat
    rcases hq : rdig n.toNat with _ | ⟨a, t⟩
    · exact absurd hq this
    · simp
  have hfirst : 1 < (rdig n.toNat).length → 0 < (rdig n.toNat).reverse.getD 0 0 := fun hh => rdig_first _ (by
    by_cases h0 : n.toNat = 0
    · rw [h0, rdig_small 0 (by omega)] at hh; simp at hh
    · omega)
  have hval := valL_rdig n.toNat
  have HC := hide (show ∀ w, Calls Try.prog 39 #[.int .i64 n] w (RetList (rdig n.toNat).reverse w) from fun w => by
    have := digits_any 6 n.toNat w (by omega) (by omega)
    rwa [Int.toNat_of_nonneg n1] at this)
  obtain ⟨l, hl⟩ : ∃ l, l = (rdig n.toNat).reverse := ⟨_, rfl⟩
  have hr : rdig n.toNat = l.reverse := by rw [hl, List.reverse_reverse]
  rw [hr, List.length_reverse] at hlen hne
  rw [hr] at hin
  rw [hr, List.length_reverse]
  rw [← hl] at HC
  have HA := hide (show ∀ x ∈ l, 0 ≤ x ∧ x ≤ 9 from fun x hx => hin x (List.mem_reverse.2 hx))
  rw [← List.length_reverse, ← hl] at hfirst
  rw [← hl, Int.toNat_of_nonneg n1] at hval
  have HV := hide hval
  have HFI := hide hfirst
  clear hl hin hr hval hfirst
  go_enter Try.func45, Try.ntmps45
  go_wp2_with fail
  refine (HC.out _).mono ?_
  rintro e w1 ⟨sa1, cap1, rfl, hr1, hb1⟩
  have L1 := hide hr1.lst
  have B1 := hide hb1
  obtain ⟨g1, off1, hsa, hg1, hgw⟩ : ∃ g off, sa1 = some ⟨g, off, none⟩ ∧ g < w1.heap.size ∧ w.heap.size < g := by
    rcases hr1.form with h0 | ⟨gq, curq, h1, h2, h3, _⟩
    · subst h0; simp at hne
    · exact ⟨gq, 0, h1, size_of_heap h3, by simp at h2; omega⟩
  subst hsa
  clear hr1 hb1 HC h
  go_wp2
  have C1 := hide (show ∀ i, i < l.length → w1.cell? ⟨g1, off1 + i, none⟩ = some (.int .i64 (l.getD i 0)) from fun i hi => by
    obtain ⟨g', off', he, _, hc⟩ := L1.out.at hi
    cases he; exact hc)
  have R0 := hide ((Row.made w.heap.size w (Nat.le_refl _)).keep B1.out)
  have W1 := hide (((Below.refl w.heap.size w).alloc (Nat.le_refl _) (.cells #[] 3)).trans (B1.out.mono (by simp)))
  clear L1 B1
  go_loopw [3, 5] (fun v i wr => ∃ (k : Nat) (o : List Int) (b : Nat) (cap : Nat), k < l.length ∧ i = .int .i64 k ∧ v = .slice (some ⟨b, 0, none⟩) o.length cap ∧ o = swapL n l.reverse k ∧ Row w.heap.size wr (some ⟨b, 0, none⟩) cap o ∧ b ≠ g1 ∧ g1 < wr.heap.size ∧ (∀ i, i < l.length → wr.cell? ⟨g1, off1 + i, none⟩ = some (.int .i64 (l.getD i 0))) ∧ Below w.heap.size w wr)
    (fun _ i _ => l.length - (intOf i).toNat)
  case atStart => exact ⟨0, [], _, _, by omega, rfl, rfl, rfl, R0.out, by omega, hg1, C1.out, W1.out⟩
  case round =>
    clear C1 R0 W1
    obtain ⟨k, o, b, cap, hk, rfl, rfl, ho, hr, hbg, hg, hc, hW⟩ := hrel
    have HR := hide hr
    have HW := hide hW
    have HO := hide ho
    have HC := hide hc
    clear hr hW ho hc
    by_cases hlt : k + 1 < l.length
    · have LL := hide (show Lst wr (some ⟨g1, off1, none⟩) l from .inr ⟨g1, off1, rfl, hg, HC.out⟩)
      have t1 : decide ((k : Int) + 1 < (l.length : Int)) = true := decide_eq_true (by omega)
      go_wp2_with fail
      refine (copyInts_any (some ⟨g1, off1, none⟩) cap1 l _ LL.out (by omega) (by omega)).mono ?_
      rintro e w2 ⟨sao, capo, rfl, hro, hb2⟩
      rcases hro.form with h0 | ⟨g, cur, rfl, h2, h3, h4⟩
      · subst h0; simp at hlt
      have B2 := hide hb2
      have hgs := size_of_heap h3
      have hcells := hide (show ∀ j, j < l.length → w2.cell? ⟨g, j, none⟩ = some (.int .i64 (l.getD j 0)) from fun j hj => (cell_of_block h3 j).trans (h4 j hj))
      have hfz := hide (show ∀ j, w2.frozen? ⟨g, j, none⟩ = false from fun j => unfrozen_of_block h3 j)
      have HC2 := hide (show ∀ j, j < l.length → w2.cell? ⟨g1, off1 + j, none⟩ = some (.int .i64 (l.getD j 0)) from fun j hj => (hb2.cell (p := ⟨g1, off1 + j, none⟩) hg).trans (HC.out j hj))
      clear hro hb2 h3 h4
      have HS := hide (show swapL n l.reverse (k + 1) = o ++ _ by rw [HO.out, swapL, swapAt_rev n l k hlt])
      have HVL := hide (swap_val l k hlt)
      rw [HV.out] at HVL
      have hx0 := HA.out _ (getD_in hk)
      have hx1 := HA.out _ (getD_in hlt)
      have hfi := HFI.out (by omega)
      have f1 := hfz.out k
      have f2 := hfz.out (k + 1)
      have d1 := hcells.out k hk
      have d2 := hcells.out (k + 1) hlt
      have c0 := HC2.out k hk
      have c1 := HC2.out (k + 1) hlt
      obtain ⟨l2, hl2⟩ : ∃ l2, l2 = (l.set k (l.getD (k + 1) 0)).set (k + 1) (l.getD k 0) := ⟨_, rfl⟩
      have hlen2 : l2.length = l.length := by rw [hl2]; simp
      have hin2 := hide (show ∀ x ∈ l2, 0 ≤ x ∧ x ≤ 9 from fun x hx => by
        rw [hl2] at hx
        rcases List.mem_or_eq_of_mem_set hx with hx | hx
        · rcases List.mem_or_eq_of_mem_set hx with hx | hx
          · exact HA.out x hx
          · rw [hx]; exact hx1
        · rw [hx]; exact hx0)
      have hcells2 := hide (show ∀ j, j < l.length → ((w2.setCell ⟨g, k, none⟩ (.int .i64 (l.getD (k + 1) 0))).setCell ⟨g, k + 1, none⟩ (.int .i64 (l.getD k 0))).cell? ⟨g, j, none⟩ = some (.int .i64 (l2.getD j 0)) from fun j hj => by
        rw [hl2, set2_getD l k hlt]
        by_cases e1 : j = k + 1
        · subst e1
          rw [World.cell?_setCell_same' _ _ _ (by rw [World.cell?_setCell_other _ _ _ _ (by first | omega | (simp; done) | (simp; omega)), d2]; rfl), if_pos rfl]
        · rw [World.cell?_setCell_other _ _ _ _ (by first | omega | (simp; done) | (simp; omega)), if_neg e1]
          by_cases e2 : j = k
          · subst e2
            rw [World.cell?_setCell_same' _ _ _ (by rw [d1]; rfl), if_pos rfl]
          · rw [World.cell?_setCell_other _ _ _ _ (by first | omega | (simp; done) | (simp; omega)), if_neg e2, hcells.out j hj])
      have hy0 : l2.getD 0 0 = if k = 0 then l.getD (k + 1) 0 else l.getD 0 0 := by
        rw [hl2, set2_getD l k hlt, if_neg (by omega)]
        by_cases e : k = 0
        · rw [if_pos e, if_pos e.symm]
        · rw [if_neg e, if_neg (Ne.symm e)]
      have hgg : g ≠ g1 := by omega
      have HCW := hide (show ∀ j, j < l.length → ((w2.setCell ⟨g, k, none⟩ (.int .i64 (l.getD (k + 1) 0))).setCell ⟨g, k + 1, none⟩ (.int .i64 (l.getD k 0))).cell? ⟨g1, off1 + j, none⟩ = some (.int .i64 (l.getD j 0)) from fun j hj => by
        rw [World.cell?_setCell_other _ _ _ _ (by first | omega | (simp; done) | (simp; omega)), World.cell?_setCell_other _ _ _ _ (by first | omega | (simp; done) | (simp; omega))]; exact HC2.out j hj)
      have HBW := hide (show Below wr.heap.size wr ((w2.setCell ⟨g, k, none⟩ (.int .i64 (l.getD (k + 1) 0))).setCell ⟨g, k + 1, none⟩ (.int .i64 (l.getD k 0))) from (B2.out.setCell (by simpa using h2) _).setCell (by simpa using h2) _)
      have hgw4 : g < ((w2.setCell ⟨g, k, none⟩ (.int .i64 (l.getD (k + 1) 0))).setCell ⟨g, k + 1, none⟩ (.int .i64 (l.getD k 0))).heap.size := by simpa using hgs
      rw [← hl2] at HVL
      obtain ⟨x0, e0⟩ : ∃ x, x = l.getD k 0 := ⟨_, rfl⟩
      obtain ⟨x1, e1⟩ : ∃ x, x = l.getD (k + 1) 0 := ⟨_, rfl⟩
      rw [← e0] at hx0 c0 d1 hcells2 HCW HBW hgw4 HVL HS
      rw [← e1] at hx1 c1 d2 hcells2 HCW HBW hgw4 HVL HS hy0
      have ya := hcells2.out 0 (by omega)
      have y0 := HCW.out k hk
      have y1 := HCW.out (k + 1) hlt
      rw [← e0] at y0
      rw [← e1] at y1
      obtain ⟨y, ey⟩ : ∃ y, y = l2.getD 0 0 := ⟨_, rfl⟩
      rw [← ey] at ya hy0
      have HY := hide hy0
      clear hy0
      have HEL := hide hlen2
      have HFI2 := hide hfi
      have hcells3 := hide (show Lst ((w2.setCell ⟨g, k, none⟩ (.int .i64 x1)).setCell ⟨g, k + 1, none⟩ (.int .i64 x0)) (some ⟨g, 0, none⟩) l2 from .inr ⟨g, 0, rfl, hgw4, fun j hj => by rw [hlen2] at hj; simpa using hcells2.out j hj⟩)
      clear e0 e1 ey hl2 hlen2 hfi hcells2 hcells hfz HC2 B2 hgs
      go_wp2
      obtain ⟨w4, hw4⟩ : ∃ w4, w4 = ((w2.setCell ⟨g, k, none⟩ (.int .i64 x1)).setCell ⟨g, k + 1, none⟩ (.int .i64 x0)) := ⟨_, rfl⟩
      rw [← hw4] at hcells3 HCW HBW hgw4 ya y0 y1 ⊢
      have HRW := hide (HR.out.keep HBW.out)
      have HWW := hide (HW.out.trans (HBW.out.mono HW.out.size))
      clear hw4 f1 f2 d1 d2 c0 c1 HR HW
      have hl0 : 0 < l.length := by omega
      have g2 : IntKind.i64.wrap ((k : Int) + 1) = (k : Int) + 1 := IntWalk.i64_in _ (by omega)
      have g3 : ((k : Int) + 1).toNat = k + 1 := by omega
      have g4 : 0 ≤ (k : Int) + 1 := by omega
      have g5 : (k : Int) + 1 < (l.length : Int) := by omega
      by_cases hyp : 0 < y
      · have p1 : decide (0 < y) = true := decide_eq_true hyp
        by_cases hxx : x1 - x0 = 0
        · have p2 : (x0 == x1) = true := by rw [beq_iff_eq]; omega
          have p3 : (x0 != x1) = false := by rw [bne, p2]; rfl
          have p4 : decide (x0 = x1) = true := decide_eq_true (by omega)
          have p5 : decide (x0 ≠ x1) = false := decide_eq_false (by omega)
          have HN := hide (show swapL n l.reverse (k + 1) = o by rw [HS.out, if_neg (by omega), List.append_nil])
          clear hyp hxx HS
          go_quiet (fail)
          go_wp2
          go_roundw
          case rel => exact ⟨k + 1, o, b, cap, hlt, by go_num, rfl, HN.out.symm, HRW.out, hbg, Nat.lt_of_lt_of_le hg HBW.out.size, HCW.out, below_draw HWW.out⟩
          case measure => simp [intOf]; omega
        · have p2 : (x0 == x1) = false := by rw [beq_eq_false_iff_ne]; omega
          have p3 : (x0 != x1) = true := by rw [bne, p2]; rfl
          have p4 : decide (x0 = x1) = false := decide_eq_false (by omega)
          have p5 : decide (x0 ≠ x1) = true := decide_eq_true (by omega)
          have P1 := hide (show o ++ [valL l2 0] = swapL n l.reverse (k + 1) by
            rw [HS.out, HVL.out, if_pos ⟨hxx, fun ⟨e, e'⟩ => by have := HY.out; rw [if_pos e] at this; omega⟩])
          have hv := valL_in l2 0 hin2.out (Int.le_refl _)
          have hpw := pow_in l2.length (by rw [HEL.out]; omega)
          have hv2 : valL l2 0 ≤ 1000000000000 := by omega
          have hv1 := hv.1
          have hol : o.length ≤ 100 := by have := swapL_len n l.reverse k; rw [HO.out]; omega
          have HVO := hide (fun w h => valueOf_any (some ⟨g, 0, none⟩) capo l2 w h (by rw [HEL.out]; omega) hin2.out)
          rw [HEL.out] at HVO
          obtain ⟨v, ev⟩ : ∃ v, v = valL l2 0 := ⟨_, rfl⟩
          rw [← ev] at P1 hv1 hv2 HVO
          clear hyp hxx HS ev hv hpw HVL
          go_quiet (fail)
          go_wp2_with fail
          refine (HVO.out _ (hcells3.out.keep (below_draw (n := nq) (Below.refl _ _)))).mono ?_
          rintro e w' ⟨rfl, rfl⟩
          have HRD := hide (show Row w.heap.size (w4.drewN nq) (some ⟨b, 0, none⟩) cap o from HRW.out)
          have HWD := hide (show Below w.heap.size w (w4.drewN nq) from below_draw HWW.out)
          have HCD := hide (show ∀ j, j < l.length → (w4.drewN nq).cell? ⟨g1, off1 + j, none⟩ = some (.int .i64 (l.getD j 0)) from HCW.out)
          have hgd := hide (show g1 < (w4.drewN nq).heap.size from Nat.lt_of_lt_of_le hg HBW.out.size)
          clear HRW HWW HCW HBW hgw4 hcells3 HVO HC LL ya y0 y1
          go_wp2_with (first | (at_builtin; refine append_int_at rfl _ _ rfl w.heap.size (w4.drewN nq) b cap o v _ rfl rfl HRD.out (by omega) HWD.out.size ?_; intro g2 cap' w5 R2 hb2 hat hkeep))
          have hne2 := hide (show g2 ≠ g1 by have := hgd.out; omega)
          have hsz := hide (show g1 < w5.heap.size from Nat.lt_of_lt_of_le hgd.out hb2.size)
          have hke := hkeep g1 hgd.out (Ne.symm hbg)
          have HC5 := hide (show ∀ j, j < l.length → w5.cell? ⟨g1, off1 + j, none⟩ = some (.int .i64 (l.getD j 0)) from fun j hj => by
            rw [← HCD.out j hj]; unfold World.cell?; simp only [hke])
          have B5 := hide (HWD.out.trans hb2)
          rw [P1.out] at R2
          have HR2 := hide R2
          have HL := hide (show (swapL n l.reverse (k + 1)).length = o.length + 1 by rw [← P1.out]; simp)
          clear R2 hb2 hat hkeep hke HRD HWD HCD hgd
          go_wp2
          go_roundw
          case rel => exact ⟨k + 1, _, g2, cap', hlt, by go_num, by rw [HL.out], rfl, HR2.out, hne2.out, hsz.out, HC5.out, B5.out⟩
          case measure => simp [intOf]; omega
      · have p1 : decide (0 < y) = false := decide_eq_false hyp
        have HN := hide (show swapL n l.reverse (k + 1) = o by
          rw [HS.out, if_neg (fun hh => by
            have := HY.out
            by_cases e : k = 0
            · rw [if_pos e] at this; exact hh.2 ⟨e, by omega⟩
            · rw [if_neg e] at this; have := HFI2.out; omega), List.append_nil])
        clear hyp HS
        go_quiet (fail)
        go_wp2
        go_roundw
        case rel => exact ⟨k + 1, o, b, cap, hlt, by go_num, rfl, HN.out.symm, HRW.out, hbg, Nat.lt_of_lt_of_le hg HBW.out.size, HCW.out, below_draw HWW.out⟩
        case measure => simp [intOf]; omega
    · have HF := hide (show o = swapL n l.reverse (l.length - 1) by rw [HO.out]; congr 1; omega)
      have t1 : decide ((k : Int) + 1 < (l.length : Int)) = false := decide_eq_false (by omega)
      go_wp2
      go_ret
      exact RetList.of (base := 0) HF.out.symm HR.out HW.out
end Go.Proofs.Ytmoefeifaiimaac
