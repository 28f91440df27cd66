/- Chapter 4: shares without one, a wrong share: contracts of the program and of the model. -/
import Derived.Test.YtgmhodmgbhpdaaaShr7
import Derived.Deep.RegionHeld3
namespace Go.Proofs.Ytgmhodmgbhpdaaa
open Go.ChangeShapes Go.WideShapes Go.ChangeAt Go.RowKit Go.Joins Go.Sort
set_option linter.unusedVariables false

theorem step_append_shares {ops : Array Oper} {o : Oper} {a : Act} {K : Act → World → Prop} {Q : Exit → Act → World → Prop} {E : Prop} {s x : Operand} (hgd : o.guard = none)
    (ho : o.op = .call { callee := .builtin .append, args := #[s, x], argTypes := #[34, 34] }) {base : Nat} {w1 : World} {sa sx : Option Addr} {n m cap cx : Nat} {l1 l : List Sh}
    (hs : a.eval s = .slice sa n cap) (hx : a.eval x = .slice sx m cx) (hn : l1.length = n) (hm : l.length = m) (R : RowS base w1 sa cap l1) (hl1 : n ≤ 1000000) (hl : m ≤ 1000000) (hb : base ≤ w1.heap.size)
    (hc : Sst w1 sx l)
    (h : ∀ sg cap' w', RowS base w' sg cap' (l1 ++ l) → Below base w1 w' → K (a.put o.dst (.slice sg (n + m) cap')) w') :
    if Region.wanted o (yielded ops a.tmps) = true then Oper.wp Try.prog o a w1 K Q else E := by
  subst hn hm
  obtain ⟨i0, hi, hz0, hz1, hz2⟩ := info_parts Try.infoSh
  by_cases h0 : 0 < l.length
  · obtain ⟨g, off, rfl, hg, hS⟩ := hc.spot h0
    refine step_append_lies w1 hgd s x 34 ho base 47 i0 _ 2 16 Try.underlying34 hi hz0 hz1 hz2 rfl (by decide) _ _ _ hs R.own ⟨g, off, none⟩ l.length cx ((flat l).map (Value.int .i64)) hx (by rw [List.length_map, flat_len]) ?_ ?_ h0 (by unfold maxLen; omega) (by omega) hb _ rfl ?_
    · intro j u hj
      rw [List.getElem?_map] at hj
      have hfl := flat_len l
      by_cases hjl : j < (flat l).length
      · rw [add_addr]
        have hi2 : j / 2 < l.length := by omega
        obtain ⟨g2, off2, e, _, c0, c1⟩ := hS.at hi2
        cases e
        have hf := flat_at l (j / 2)
        rw [List.getElem?_eq_getElem hjl] at hj
        simp at hj
        subst hj
        have e2 : (flat l).getD j 0 = (flat l)[j] := by rw [List.getD_eq_getElem?_getD, List.getElem?_eq_getElem hjl]; rfl
        rw [← e2]
        rcases Nat.mod_two_eq_zero_or_one j with hm | hm
        · rw [show j = j / 2 * 2 by omega, hf.1, ← c0]
        · rw [show off + j = off + j / 2 * 2 + 1 by omega, c1, ← hf.2, show j / 2 * 2 + 1 = j by omega]
      · rw [List.getElem?_eq_none (by omega)] at hj; simp at hj
    · intro u hu
      obtain ⟨x, _, rfl⟩ := List.mem_map.1 hu
      rfl
    · intro g' cap' w2 hown hgrow hat hlt
      refine h (some ⟨g', 0, none⟩) cap' w2 ?_ ((Below.refl _ _).grown hgrow hb fun k hk => (World.ownsRow.lt R.own k hk).1)
      show w2.ownsRow base 47 2 (.slice (some ⟨g', 0, none⟩) (l1 ++ l).length cap') (l1 ++ l).length ((flat (l1 ++ l)).map (Value.int .i64))
      rw [flat_append, List.map_append, List.length_append]; exact hown
  · have e : l = [] := List.length_eq_zero_iff.1 (by omega)
    subst e
    have hw : Region.wanted o (yielded ops a.tmps) = true := by simp [Region.wanted, hgd]
    rw [if_pos hw]
    have hsrc : Src Try.prog i0.size 34 (.slice sx 0 cx) 0 [] w1 := by
      cases sx with
      | none => exact Src.ofNil w1 Try.underlying34 cx
      | some ad => exact Src.ofSlice w1 Try.underlying34 ad 0 cx [] (by simp) (fun j u hj => by simp at hj) (by simp)
    have hrun := run_append_nothing (P := Try.prog) w1 34 34 o.type 47 i0 Try.underlying34 hi sa l1.length cap R.cap (.slice sx 0 cx) hsrc
    unfold Oper.wp
    simp [execOp, ho, resolve, invoke, builtin, hs, hx, hrun, Result.andThen]
    exact h sa cap w1 (by rw [List.append_nil]; exact R) (Below.refl _ _)
set_option maxHeartbeats 1000000 in
theorem lawDrop (sa : Option Addr) (cap n k : Nat) (ll : List Sh) (w : World) (h : Sst w sa ll) (hn : ll.length = n) (hl : n ≤ 1000) (hcap : n ≤ cap) (hk : k < n) :
    Calls Try.prog 34 #[.slice sa n cap, .int .i64 k] w (RetS (drp ll k) w) := by
  subst hn
  have H := hide h; clear h
  have HTL := hide (show (ll.take k).length = k by rw [List.length_take]; omega)
  have HTL2 := hide (show ([] ++ ll.take k).length = 0 + k by rw [List.nil_append, HTL.out]; omega)
  have HDL := hide (show (ll.drop (k + 1)).length = ll.length - (k + 1) by rw [List.length_drop])
  have HDR := hide (show [] ++ ll.take k ++ ll.drop (k + 1) = drp ll k by rw [List.nil_append]; rfl)
  have HLN := hide (show (drp ll k).length = k + (ll.length - (k + 1)) by rw [drp_len hk]; omega)
  obtain ⟨g, off, rfl, hg, HSp⟩ := H.out.spot (show 0 < ll.length by omega)
  have hw1 : IntKind.i64.wrap ((k : Int) + 1) = (k : Int) + 1 := IntWalk.i64_in _ (by omega)
  have hkc : (k : Int) ≤ (cap : Int) := by omega
  have hk1 : (k : Int) + 1 ≤ (ll.length : Int) := by omega
  have hk2 : (0 : Int) ≤ (k : Int) + 1 := by omega
  have hk3 : ((k : Int) + 1).toNat = k + 1 := by omega
  have hk4 : k + 1 ≤ ll.length := by omega
  have hk5 : k ≤ ll.length := by omega
  by_cases hkcap : k + 1 = cap
  · have HDL0 := hide (show (ll.drop (k + 1)).length = 0 by rw [HDL.out]; omega)
    have HLN0 := hide (show (drp ll k).length = k by rw [HLN.out]; omega)
    have HSD := hide (show Sst w (some ⟨g, off, none⟩) (ll.drop (k + 1)) from .inl (List.length_eq_zero_iff.1 HDL0.out))
    go_enter Try.func34, Try.ntmps34
    go_wp2
    refine wp_region_held_drew (S := fun _ => True ∧ True) (by kernel_rfl) (by first | exact ⟨trivial, trivial⟩) (fun hHeld => ?_)
    refine wpAnyH_take (i := 1) (oi := _) (v := ?_) rfl (by kernel_rfl) (by kernel_rfl) (by kernel_rfl) (fun _ _ _ h => h) (Or.inl ⟨by rfl, ?_⟩) (by assumption) ?_
    rotate_left
    · (intro w hSw; (try dsimp only at hSw); go_simp; (try with_reducible rfl))
    (try simp only [List.getElem_toArray, List.getElem_cons_succ, List.getElem_cons_zero, Act.put, List.setIfInBounds_toArray, List.set_cons_zero, List.set_cons_succ])
    refine wpAnyH_take (i := 2) (oi := _) (v := ?_) rfl (by kernel_rfl) (by kernel_rfl) (by kernel_rfl) (fun _ _ _ h => h) (Or.inl ⟨by rfl, ?_⟩) (by assumption) ?_
    rotate_left
    · (intro w hSw; (try dsimp only at hSw); go_simp; (try with_reducible rfl))
    (try simp only [List.getElem_toArray, List.getElem_cons_succ, List.getElem_cons_zero, Act.put, List.setIfInBounds_toArray, List.set_cons_zero, List.set_cons_succ])
    refine wpAnyH_take (i := 3) (oi := _) (v := ?_) rfl (by kernel_rfl) (by kernel_rfl) (by kernel_rfl) (fun _ _ _ h => h) (Or.inl ⟨by rfl, ?_⟩) (by assumption) ?_
    rotate_left
    · (intro w hSw; (try dsimp only at hSw); go_simp; (try with_reducible rfl))
    (try simp only [List.getElem_toArray, List.getElem_cons_succ, List.getElem_cons_zero, Act.put, List.setIfInBounds_toArray, List.set_cons_zero, List.set_cons_succ])
    refine wpAnyH_take (i := 5) (oi := _) (v := ?_) rfl (by kernel_rfl) (by kernel_rfl) (by kernel_rfl) (fun _ _ _ h => h) (Or.inl ⟨by rfl, ?_⟩) (by assumption) ?_
    rotate_left
    · (intro w hSw; (try dsimp only at hSw); go_simp; (try with_reducible rfl))
    (try simp only [List.getElem_toArray, List.getElem_cons_succ, List.getElem_cons_zero, Act.put, List.setIfInBounds_toArray, List.set_cons_zero, List.set_cons_succ])
    refine wpAnyH_take (i := 6) (oi := _) (v := ?_) rfl (by kernel_rfl) (by kernel_rfl) (by kernel_rfl) (fun _ _ _ h => h) (Or.inl ⟨by rfl, ?_⟩) (by assumption) ?_
    rotate_left
    · (intro w hSw; (try dsimp only at hSw); go_simp; (try with_reducible rfl))
    (try simp only [List.getElem_toArray, List.getElem_cons_succ, List.getElem_cons_zero, Act.put, List.setIfInBounds_toArray, List.set_cons_zero, List.set_cons_succ])
    refine wpAnyH_take (i := 7) (oi := _) (v := ?_) rfl (by kernel_rfl) (by kernel_rfl) (by kernel_rfl) (fun _ _ _ h => h) (Or.inl ⟨by rfl, ?_⟩) (by assumption) ?_
    rotate_left
    · (intro w hSw; (try dsimp only at hSw); go_simp; (try with_reducible rfl))
    (try simp only [List.getElem_toArray, List.getElem_cons_succ, List.getElem_cons_zero, Act.put, List.setIfInBounds_toArray, List.set_cons_zero, List.set_cons_succ])
    refine wpAnyH_take (i := 8) (oi := _) (v := ?_) rfl (by kernel_rfl) (by kernel_rfl) (by kernel_rfl) (fun _ _ _ h => h) (Or.inl ⟨by rfl, ?_⟩) (by assumption) ?_
    rotate_left
    · (intro w hSw; (try dsimp only at hSw); go_simp; (try with_reducible rfl))
    (try simp only [List.getElem_toArray, List.getElem_cons_succ, List.getElem_cons_zero, Act.put, List.setIfInBounds_toArray, List.set_cons_zero, List.set_cons_succ])
    refine wpAnyH_ready (rs := [0]) (by kernel_rfl) (by simp) ?_
    refine AllReadyH.cons (o := _) rfl (fun K hK => ?_) AllReadyH.nil
    go_simp
    refine hK.out _ _ ⟨trivial, trivial⟩ (fun hHeld => ?_); clear hK K
    (try simp only [List.getElem_toArray, List.getElem_cons_zero, Act.put, List.setIfInBounds_toArray, List.set_cons_zero, List.set_cons_succ])
    refine wpAnyH_ready (rs := [4]) (by kernel_rfl) (by simp) ?_
    refine AllReadyH.cons (o := _) rfl (fun K hK => ?_) AllReadyH.nil
    refine step_append_shares (base := w.heap.size) (n := 0) (m := k) (l1 := []) (l := ll.take k) (s := .tmp 5) (x := .tmp 8) (by rfl) (by rfl) (by rfl) (by rfl) rfl HTL.out (RowS.made w.heap.size w (Nat.le_refl _)) (by omega) (by omega) (by simp) ((H.out.ext ((Ext.refl w).drew.alloc _)).take k) ?_; intro sg c4 w4 R4 hb4
    have E4 := ((Ext.refl w).drew.alloc _).below hb4 (Nat.le_refl _)
    refine hK.out _ _ ⟨trivial, trivial⟩ (fun hHeld => ?_); clear hK K
    (try simp only [List.getElem_toArray, List.getElem_cons_succ, List.getElem_cons_zero, Act.put, List.setIfInBounds_toArray, List.set_cons_zero, List.set_cons_succ])
    refine wpAnyH_ready (rs := [9]) (by kernel_rfl) (by simp) ?_
    refine AllReadyH.cons (o := _) rfl (fun K hK => ?_) AllReadyH.nil
    refine step_append_shares (base := w.heap.size) (n := 0 + k) (m := 0) (l1 := [] ++ ll.take k) (l := ll.drop (k + 1)) (s := .tmp 9) (x := .tmp 13) (by rfl) (by rfl) (by rfl) (by rfl) HTL2.out HDL0.out R4 (by omega) (by omega) E4.size (HSD.out.ext E4) ?_; intro sh c9 w9 R9 hb9
    have E9 := E4.below hb9 (Nat.le_refl _)
    refine hK.out _ _ ⟨trivial, trivial⟩ (fun hHeld => ?_); clear hK K
    (try simp only [List.getElem_toArray, List.getElem_cons_succ, List.getElem_cons_zero, Act.put, List.setIfInBounds_toArray, List.set_cons_zero, List.set_cons_succ])
    refine wpAnyH_ready (rs := [10]) (by kernel_rfl) (by simp) ?_
    refine AllReadyH.cons (o := _) rfl (fun K hK => ?_) AllReadyH.nil
    go_simp
    refine hK.out _ _ ⟨trivial, trivial⟩ (fun hHeld => ?_); clear hK K
    (try simp only [List.getElem_toArray, List.getElem_cons_succ, List.getElem_cons_zero, Act.put, List.setIfInBounds_toArray, List.set_cons_zero, List.set_cons_succ])
    refine wpAnyH_done (by kernel_rfl) ?_ _
    clear hb4 hb9 R4
    go_wp2
    go_ret
    exact ⟨sh, c9, by rw [HLN0.out]; rfl, by rw [← HDR.out]; exact R9, E9⟩
  · have HSD := hide (HSp.drop (k + 1))
    have hkcap2 : ¬ cap = k + 1 := fun e => hkcap e.symm
    go_enter Try.func34, Try.ntmps34
    go_wp2
    refine wp_region_held_drew (S := fun _ => True ∧ True) (by kernel_rfl) (by first | exact ⟨trivial, trivial⟩) (fun hHeld => ?_)
    refine wpAnyH_take (i := 1) (oi := _) (v := ?_) rfl (by kernel_rfl) (by kernel_rfl) (by kernel_rfl) (fun _ _ _ h => h) (Or.inl ⟨by rfl, ?_⟩) (by assumption) ?_
    rotate_left
    · (intro w hSw; (try dsimp only at hSw); go_simp; (try with_reducible rfl))
    (try simp only [List.getElem_toArray, List.getElem_cons_succ, List.getElem_cons_zero, Act.put, List.setIfInBounds_toArray, List.set_cons_zero, List.set_cons_succ])
    refine wpAnyH_take (i := 2) (oi := _) (v := ?_) rfl (by kernel_rfl) (by kernel_rfl) (by kernel_rfl) (fun _ _ _ h => h) (Or.inl ⟨by rfl, ?_⟩) (by assumption) ?_
    rotate_left
    · (intro w hSw; (try dsimp only at hSw); go_simp; (try with_reducible rfl))
    (try simp only [List.getElem_toArray, List.getElem_cons_succ, List.getElem_cons_zero, Act.put, List.setIfInBounds_toArray, List.set_cons_zero, List.set_cons_succ])
    refine wpAnyH_take (i := 3) (oi := _) (v := ?_) rfl (by kernel_rfl) (by kernel_rfl) (by kernel_rfl) (fun _ _ _ h => h) (Or.inl ⟨by rfl, ?_⟩) (by assumption) ?_
    rotate_left
    · (intro w hSw; (try dsimp only at hSw); go_simp; (try with_reducible rfl))
    (try simp only [List.getElem_toArray, List.getElem_cons_succ, List.getElem_cons_zero, Act.put, List.setIfInBounds_toArray, List.set_cons_zero, List.set_cons_succ])
    refine wpAnyH_take (i := 5) (oi := _) (v := ?_) rfl (by kernel_rfl) (by kernel_rfl) (by kernel_rfl) (fun _ _ _ h => h) (Or.inl ⟨by rfl, ?_⟩) (by assumption) ?_
    rotate_left
    · (intro w hSw; (try dsimp only at hSw); go_simp; (try with_reducible rfl))
    (try simp only [List.getElem_toArray, List.getElem_cons_succ, List.getElem_cons_zero, Act.put, List.setIfInBounds_toArray, List.set_cons_zero, List.set_cons_succ])
    refine wpAnyH_take (i := 6) (oi := _) (v := ?_) rfl (by kernel_rfl) (by kernel_rfl) (by kernel_rfl) (fun _ _ _ h => h) (Or.inl ⟨by rfl, ?_⟩) (by assumption) ?_
    rotate_left
    · (intro w hSw; (try dsimp only at hSw); go_simp; (try with_reducible rfl))
    (try simp only [List.getElem_toArray, List.getElem_cons_succ, List.getElem_cons_zero, Act.put, List.setIfInBounds_toArray, List.set_cons_zero, List.set_cons_succ])
    refine wpAnyH_take (i := 7) (oi := _) (v := ?_) rfl (by kernel_rfl) (by kernel_rfl) (by kernel_rfl) (fun _ _ _ h => h) (Or.inl ⟨by rfl, ?_⟩) (by assumption) ?_
    rotate_left
    · (intro w hSw; (try dsimp only at hSw); go_simp; (try with_reducible rfl))
    (try simp only [List.getElem_toArray, List.getElem_cons_succ, List.getElem_cons_zero, Act.put, List.setIfInBounds_toArray, List.set_cons_zero, List.set_cons_succ])
    refine wpAnyH_take (i := 8) (oi := _) (v := ?_) rfl (by kernel_rfl) (by kernel_rfl) (by kernel_rfl) (fun _ _ _ h => h) (Or.inl ⟨by rfl, ?_⟩) (by assumption) ?_
    rotate_left
    · (intro w hSw; (try dsimp only at hSw); go_simp; (try with_reducible rfl))
    (try simp only [List.getElem_toArray, List.getElem_cons_succ, List.getElem_cons_zero, Act.put, List.setIfInBounds_toArray, List.set_cons_zero, List.set_cons_succ])
    refine wpAnyH_ready (rs := [0]) (by kernel_rfl) (by simp) ?_
    refine AllReadyH.cons (o := _) rfl (fun K hK => ?_) AllReadyH.nil
    go_simp
    refine hK.out _ _ ⟨trivial, trivial⟩ (fun hHeld => ?_); clear hK K
    (try simp only [List.getElem_toArray, List.getElem_cons_zero, Act.put, List.setIfInBounds_toArray, List.set_cons_zero, List.set_cons_succ])
    refine wpAnyH_ready (rs := [4]) (by kernel_rfl) (by simp) ?_
    refine AllReadyH.cons (o := _) rfl (fun K hK => ?_) AllReadyH.nil
    refine step_append_shares (base := w.heap.size) (n := 0) (m := k) (l1 := []) (l := ll.take k) (s := .tmp 5) (x := .tmp 8) (by rfl) (by rfl) (by rfl) (by rfl) rfl HTL.out (RowS.made w.heap.size w (Nat.le_refl _)) (by omega) (by omega) (by simp) ((H.out.ext ((Ext.refl w).drew.alloc _)).take k) ?_; intro sg c4 w4 R4 hb4
    have E4 := ((Ext.refl w).drew.alloc _).below hb4 (Nat.le_refl _)
    refine hK.out _ _ ⟨trivial, trivial⟩ (fun hHeld => ?_); clear hK K
    (try simp only [List.getElem_toArray, List.getElem_cons_succ, List.getElem_cons_zero, Act.put, List.setIfInBounds_toArray, List.set_cons_zero, List.set_cons_succ])
    refine wpAnyH_ready (rs := [9]) (by kernel_rfl) (by simp) ?_
    refine AllReadyH.cons (o := _) rfl (fun K hK => ?_) AllReadyH.nil
    refine step_append_shares (base := w.heap.size) (n := 0 + k) (m := ll.length - (k + 1)) (l1 := [] ++ ll.take k) (l := ll.drop (k + 1)) (s := .tmp 9) (x := .tmp 13) (by rfl) (by rfl) (by rfl) (by rfl) HTL2.out HDL.out R4 (by omega) (by omega) E4.size (HSD.out.ext E4) ?_; intro sh c9 w9 R9 hb9
    have E9 := E4.below hb9 (Nat.le_refl _)
    refine hK.out _ _ ⟨trivial, trivial⟩ (fun hHeld => ?_); clear hK K
    (try simp only [List.getElem_toArray, List.getElem_cons_succ, List.getElem_cons_zero, Act.put, List.setIfInBounds_toArray, List.set_cons_zero, List.set_cons_succ])
    refine wpAnyH_ready (rs := [10]) (by kernel_rfl) (by simp) ?_
    refine AllReadyH.cons (o := _) rfl (fun K hK => ?_) AllReadyH.nil
    go_simp
    refine hK.out _ _ ⟨trivial, trivial⟩ (fun hHeld => ?_); clear hK K
    (try simp only [List.getElem_toArray, List.getElem_cons_succ, List.getElem_cons_zero, Act.put, List.setIfInBounds_toArray, List.set_cons_zero, List.set_cons_succ])
    refine wpAnyH_done (by kernel_rfl) ?_ _
    clear hb4 hb9 R4
    go_wp2
    go_ret
    exact ⟨sh, c9, by rw [HLN.out]; rfl, by rw [← HDR.out]; exact R9, E9⟩
theorem wo_step {ll : List Sh} {k i : Nat} (hk : k < ll.length) (e : k ≠ i) : (ll.eraseIdx i).take (if k ≤ i then k else k - 1) ++ [ll.getD k Sh.z] = (ll.eraseIdx i).take (if k + 1 ≤ i then k + 1 else k) := by
  have h1 : ∀ j, (ll.eraseIdx i)[j]? = if j < i then ll[j]? else ll[j + 1]? := fun j => List.getElem?_eraseIdx ..
  have hgo : ∀ j, (j < i ∧ j = k ∨ i ≤ j ∧ j + 1 = k) → (ll.eraseIdx i).take j ++ [ll.getD k Sh.z] = (ll.eraseIdx i).take (j + 1) := by
    intro j hj
    have h2 : (ll.eraseIdx i)[j]? = some (ll.getD k Sh.z) := by
      rw [h1, List.getD_eq_getElem?_getD, List.getElem?_eq_getElem hk]
      rcases hj with ⟨a, rfl⟩ | ⟨a, b⟩
      · rw [if_pos a, List.getElem?_eq_getElem hk]; rfl
      · rw [if_neg (by omega), b, List.getElem?_eq_getElem hk]; rfl
    obtain ⟨hj2, e2⟩ := List.getElem?_eq_some_iff.1 h2
    rw [List.take_succ_eq_append_getElem hj2, e2]
  rcases Nat.lt_or_ge k i with h | h
  · rw [if_pos (by omega), if_pos (by omega)]; exact hgo k (.inl ⟨h, rfl⟩)
  · rw [if_neg (by omega), if_neg (by omega)]
    have := hgo (k - 1) (.inr ⟨by omega, by omega⟩)
    rw [show k - 1 + 1 = k by omega] at this; exact this
theorem wo_skip {ll : List Sh} {i : Nat} : (ll.eraseIdx i).take (if i ≤ i then i else i - 1) = (ll.eraseIdx i).take (if i + 1 ≤ i then i + 1 else i) := by
  rw [if_pos (Nat.le_refl _), if_neg (by omega)]
theorem wo_end {ll : List Sh} {i : Nat} (hi : i < ll.length) : (ll.eraseIdx i).take (if ll.length ≤ i then ll.length else ll.length - 1) = drp ll i := by
  rw [if_neg (by omega), drp_eq, List.take_of_length_le]
  rw [List.length_eraseIdx_of_lt hi]; exact Nat.le_refl _
open Classical in
/-- the share that does not fit the others -/
noncomputable def wsR (ll : List Sh) (need : Int) : Int :=
  if svOk ll ∧ 1 ≤ need ∧ need ≤ 8 ∧ need + 2 ≤ ll.length ∧ ¬ fit ll need.toNat then (if h : ∃ i, i < ll.length ∧ fit (drp ll i) need.toNat then (Classical.choose h : Nat) else -1) else -1
theorem wsR_no {ll : List Sh} {need : Int} (h : ¬ (svOk ll ∧ 1 ≤ need ∧ need ≤ 8 ∧ need + 2 ≤ ll.length ∧ ¬ fit ll need.toNat)) : wsR ll need = -1 := if_neg h
theorem wsR_at {ll : List Sh} {m i : Nat} (h : svOk ll) (h1 : 1 ≤ m) (h8 : m ≤ 8) (hl : m + 2 ≤ ll.length) (hf : ¬ fit ll m) (hi : i < ll.length) (hd : fit (drp ll i) m) : wsR ll (m : Int) = i := by
  unfold wsR
  rw [if_pos ⟨h, by omega, by omega, by omega, by rw [Int.toNat_natCast]; exact hf⟩]
  have hx : ∃ i, i < ll.length ∧ fit (drp ll i) (m : Int).toNat := ⟨i, hi, by rw [Int.toNat_natCast]; exact hd⟩
  rw [dif_pos hx]
  have hs := Classical.choose_spec hx
  obtain ⟨j, hj⟩ : ∃ j, j = Classical.choose hx := ⟨_, rfl⟩
  rw [← hj] at hs ⊢
  rw [Int.toNat_natCast] at hs
  by_cases e : j = i
  · rw [e]
  · exact absurd (one_wrong h.gd hl hs.1 hi e hs.2 hd) hf
theorem wsR_none {ll : List Sh} {m : Nat} (hd : ∀ i, i < ll.length → ¬ fit (drp ll i) m) : wsR ll (m : Int) = -1 := by
  unfold wsR
  split
  · rw [dif_neg]
    rintro ⟨i, hi, h⟩
    rw [Int.toNat_natCast] at h
    exact hd i hi h
  · rfl
theorem wsR_bd (ll : List Sh) (need : Int) : wsR ll need = -1 ∨ (∃ i : Nat, wsR ll need = (i : Int) ∧ i < ll.length ∧ fit (drp ll i) need.toNat ∧ svOk ll ∧ 1 ≤ need ∧ need ≤ 8 ∧ need + 2 ≤ ll.length ∧ ¬ fit ll need.toNat) := by
  by_cases h : svOk ll ∧ 1 ≤ need ∧ need ≤ 8 ∧ need + 2 ≤ ll.length ∧ ¬ fit ll need.toNat
  · by_cases hx : ∃ i, i < ll.length ∧ fit (drp ll i) need.toNat
    · right
      have hs := Classical.choose_spec hx
      refine ⟨Classical.choose hx, ?_, hs.1, hs.2, h⟩
      unfold wsR; rw [if_pos h, dif_pos hx]
    · left; unfold wsR; rw [if_pos h, dif_neg hx]
  · left; exact wsR_no h
theorem nfit_succ {ll : List Sh} {m k : Nat} (h : ∀ j, j < k → ¬ fit (drp ll j) m) (hk : ¬ fit (drp ll k) m) : ∀ j, j < k + 1 → ¬ fit (drp ll j) m := fun j hj => by
  by_cases e : j = k
  · rw [e]; exact hk
  · exact h j (by omega)
end Go.Proofs.Ytgmhodmgbhpdaaa
