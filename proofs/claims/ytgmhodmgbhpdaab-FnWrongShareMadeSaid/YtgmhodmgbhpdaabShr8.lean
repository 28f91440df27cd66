/- Chapter 4: shares without one, a wrong share: contracts of the program and of the model. -/
import Derived.Test.YtgmhodmgbhpdaabShr7
import Derived.Deep.RegionHeld3
namespace Go.Proofs.Ytgmhodmgbhpdaab
open Go.ChangeShapes Go.WideShapes Go.ChangeAt Go.RowKit Go.Joins Go.Sort
set_option linter.unusedVariables false

theorem step_append_shares {ops : Array Oper} {o : Oper} {a : Act} {K : Act → World → Prop} {Q : Exit → Act → World → Prop} {E : Prop} {s x : Operand} (hgd : o.guard = none)
    (ho : o.op = .call { callee := .builtin .append, args := #[s, x], argTypes := #[23, 23] }) {base : Nat} {w1 : World} {sa sx : Option Addr} {n m cap cx : Nat} {l1 l : List Sh}
    (hs : a.eval s = .slice sa n cap) (hx : a.eval x = .slice sx m cx) (hn : l1.length = n) (hm : l.length = m) (R : RowS base w1 sa cap l1) (hl1 : n ≤ 1000000) (hl : m ≤ 1000000) (hb : base ≤ w1.heap.size)
    (hc : Sst w1 sx l)
    (h : ∀ sg cap' w', RowS base w' sg cap' (l1 ++ l) → Below base w1 w' → K (a.put o.dst (.slice sg (n + m) cap')) w') :
    if Region.wanted o (yielded ops a.tmps) = true then Oper.wp Try.prog o a w1 K Q else E := by
  subst hn hm
  obtain ⟨i0, hi, hz0, hz1, hz2⟩ := info_parts Try.infoSh
  by_cases h0 : 0 < l.length
  · obtain ⟨g, off, rfl, hg, hS⟩ := hc.spot h0
    refine step_append_lies w1 hgd s x 23 ho base 40 i0 _ 2 16 Try.underlying23 hi hz0 hz1 hz2 rfl (by decide) _ _ _ hs R.own ⟨g, off, none⟩ l.length cx ((flat l).map (Value.int .i64)) hx (by rw [List.length_map, flat_len]) ?_ ?_ h0 (by unfold maxLen; omega) (by omega) hb _ rfl ?_
    · intro j u hj
      rw [List.getElem?_map] at hj
      have hfl := flat_len l
      by_cases hjl : j < (flat l).length
      · rw [add_addr]
        have hi2 : j / 2 < l.length := by omega
        obtain ⟨g2, off2, e, _, c0, c1⟩ := hS.at hi2
        cases e
        have hf := flat_at l (j / 2)
        rw [List.getElem?_eq_getElem hjl] at hj
        simp at hj
        subst hj
        have e2 : (flat l).getD j 0 = (flat l)[j] := by rw [List.getD_eq_getElem?_getD, List.getElem?_eq_getElem hjl]; rfl
        rw [← e2]
        rcases Nat.mod_two_eq_zero_or_one j with hm | hm
        · rw [show j = j / 2 * 2 by omega, hf.1, ← c0]
        · rw [show off + j = off + j / 2 * 2 + 1 by omega, c1, ← hf.2, show j / 2 * 2 + 1 = j by omega]
      · rw [List.getElem?_eq_none (by omega)] at hj; simp at hj
    · intro u hu
      obtain ⟨x, _, rfl⟩ := List.mem_map.1 hu
      rfl
    · intro g' cap' w2 hown hgrow hat hlt
      refine h (some ⟨g', 0, none⟩) cap' w2 ?_ ((Below.refl _ _).grown hgrow hb fun k hk => (World.ownsRow.lt R.own k hk).1)
      show w2.ownsRow base 40 2 (.slice (some ⟨g', 0, none⟩) (l1 ++ l).length cap') (l1 ++ l).length ((flat (l1 ++ l)).map (Value.int .i64))
      rw [flat_append, List.map_append, List.length_append]; exact hown
  · have e : l = [] := List.length_eq_zero_iff.1 (by omega)
    subst e
    have hw : Region.wanted o (yielded ops a.tmps) = true := by simp [Region.wanted, hgd]
    rw [if_pos hw]
    have hsrc : Src Try.prog i0.size 23 (.slice sx 0 cx) 0 [] w1 := by
      cases sx with
      | none => exact Src.ofNil w1 Try.underlying23 cx
      | some ad => exact Src.ofSlice w1 Try.underlying23 ad 0 cx [] (by simp) (fun j u hj => by simp at hj) (by simp)
    have hrun := run_append_nothing (P := Try.prog) w1 23 23 o.type 40 i0 Try.underlying23 hi sa l1.length cap R.cap (.slice sx 0 cx) hsrc
    unfold Oper.wp
    simp [execOp, ho, resolve, invoke, builtin, hs, hx, hrun, Result.andThen]
    exact h sa cap w1 (by rw [List.append_nil]; exact R) (Below.refl _ _)
set_option maxHeartbeats 1000000 in
theorem lawDrop (sa : Option Addr) (cap n k : Nat) (ll : List Sh) (w : World) (h : Sst w sa ll) (hn : ll.length = n) (hl : n ≤ 1000) (hcap : n ≤ cap) (hk : k < n) :
    Calls Try.prog 18 #[.slice sa n cap, .int .i64 k] w (RetS (drp ll k) w) := by
  subst hn
  have H := hide h; clear h
  have HTL := hide (show (ll.take k).length = k by rw [List.length_take]; omega)
  have HTL2 := hide (show ([] ++ ll.take k).length = 0 + k by rw [List.nil_append, HTL.out]; omega)
  have HDL := hide (show (ll.drop (k + 1)).length = ll.length - (k + 1) by rw [List.length_drop])
  have HDR := hide (show [] ++ ll.take k ++ ll.drop (k + 1) = drp ll k by rw [List.nil_append]; rfl)
  have HLN := hide (show (drp ll k).length = k + (ll.length - (k + 1)) by rw [drp_len hk]; omega)
  obtain ⟨g, off, rfl, hg, HSp⟩ := H.out.spot (show 0 < ll.length by omega)
  have hw1 : IntKind.i64.wrap ((k : Int) + 1) = (k : Int) + 1 := IntWalk.i64_in _ (by omega)
  have hkc : (k : Int) ≤ (cap : Int) := by omega
  have hk1 : (k : Int) + 1 ≤ (ll.length : Int) := by omega
  have hk2 : (0 : Int) ≤ (k : Int) + 1 := by omega
  have hk3 : ((k : Int) + 1).toNat = k + 1 := by omega
  have hk4 : k + 1 ≤ ll.length := by omega
  have hk5 : k ≤ ll.length := by omega
  by_cases hkcap : k + 1 = cap
  · have HDL0 := hide (show (ll.drop (k + 1)).length = 0 by rw [HDL.out]; omega)
    have HLN0 := hide (show (drp ll k).length = k by rw [HLN.out]; omega)
    have HSD := hide (show Sst w (some ⟨g, off, none⟩) (ll.drop (k + 1)) from .inl (List.length_eq_zero_iff.1 HDL0.out))
    go_enter Try.func18, Try.ntmps18
    go_wp2
    refine wp_region_held_drew (S := fun _ => True ∧ True) (by kernel_rfl) (by first | exact ⟨trivial, trivial⟩) (fun hHeld => ?_)
    refine wpAnyH_take (i := 1) (oi := _) (v := ?_) rfl (by kernel_rfl) (by kernel_rfl) (by kernel_rfl) (fun _ _ _ h => h) (Or.inl ⟨by rfl, ?_⟩) (by assumption) ?_
    rotate_left
    · (intro w hSw; (try dsimp only at hSw); go_simp; (try with_reducible rfl))
    (try simp only [List.getElem_toArray, List.getElem_cons_succ, List.getElem_cons_zero, Act.put, List.setIfInBounds_toArray, List.set_cons_zero, List.set_cons_succ])
    refine wpAnyH_take (i := 2) (oi := _) (v := ?_) rfl (by kernel_rfl) (by kernel_rfl) (by kernel_rfl) (fun _ _ _ h => h) (Or.inl ⟨by rfl, ?_⟩) (by assumption) ?_
    rotate_left
    · (intro w hSw; (try dsimp only at hSw); go_simp; (try with_reducible rfl))
    (try simp only [List.getElem_toArray, List.getElem_cons_succ, List.getElem_cons_zero, Act.put, List.setIfInBounds_toArray, List.set_cons_zero, List.set_cons_succ])
    refine wpAnyH_take (i := 3) (oi := _) (v := ?_) rfl (by kernel_rfl) (by kernel_rfl) (by kernel_rfl) (fun _ _ _ h => h) (Or.inl ⟨by rfl, ?_⟩) (by assumption) ?_
    rotate_left
    · (intro w hSw; (try dsimp only at hSw); go_simp; (try with_reducible rfl))
    (try simp only [List.getElem_toArray, List.getElem_cons_succ, List.getElem_cons_zero, Act.put, List.setIfInBounds_toArray, List.set_cons_zero, List.set_cons_succ])
    refine wpAnyH_take (i := 5) (oi := _) (v := ?_) rfl (by kernel_rfl) (by kernel_rfl) (by kernel_rfl) (fun _ _ _ h => h) (Or.inl ⟨by rfl, ?_⟩) (by assumption) ?_
    rotate_left
    · (intro w hSw; (try dsimp only at hSw); go_simp; (try with_reducible rfl))
    (try simp only [List.getElem_toArray, List.getElem_cons_succ, List.getElem_cons_zero, Act.put, List.setIfInBounds_toArray, List.set_cons_zero, List.set_cons_succ])
    refine wpAnyH_take (i := 6) (oi := _) (v := ?_) rfl (by kernel_rfl) (by kernel_rfl) (by kernel_rfl) (fun _ _ _ h => h) (Or.inl ⟨by rfl, ?_⟩) (by assumption) ?_
    rotate_left
    · (intro w hSw; (try dsimp only at hSw); go_simp; (try with_reducible rfl))
    (try simp only [List.getElem_toArray, List.getElem_cons_succ, List.getElem_cons_zero, Act.put, List.setIfInBounds_toArray, List.set_cons_zero, List.set_cons_succ])
    refine wpAnyH_take (i := 7) (oi := _) (v := ?_) rfl (by kernel_rfl) (by kernel_rfl) (by kernel_rfl) (fun _ _ _ h => h) (Or.inl ⟨by rfl, ?_⟩) (by assumption) ?_
    rotate_left
    · (intro w hSw; (try dsimp only at hSw); go_simp; (try with_reducible rfl))
    (try simp only [List.getElem_toArray, List.getElem_cons_succ, List.getElem_cons_zero, Act.put, List.setIfInBounds_toArray, List.set_cons_zero, List.set_cons_succ])
    refine wpAnyH_take (i := 8) (oi := _) (v := ?_) rfl (by kernel_rfl) (by kernel_rfl) (by kernel_rfl) (fun _ _ _ h => h) (Or.inl ⟨by rfl, ?_⟩) (by assumption) ?_
    rotate_left
    · (intro w hSw; (try dsimp only at hSw); go_simp; (try with_reducible rfl))
    (try simp only [List.getElem_toArray, List.getElem_cons_succ, List.getElem_cons_zero, Act.put, List.setIfInBounds_toArray, List.set_cons_zero, List.set_cons_succ])
    refine wpAnyH_ready (rs := [0]) (by kernel_rfl) (by simp) ?_
    refine AllReadyH.cons (o := _) rfl (fun K hK => ?_) AllReadyH.nil
    go_simp
    refine hK.out _ _ ⟨trivial, trivial⟩ (fun hHeld => ?_); clear hK K
    (try simp only [List.getElem_toArray, List.getElem_cons_zero, Act.put, List.setIfInBounds_toArray, List.set_cons_zero, List.set_cons_succ])
    refine wpAnyH_ready (rs := [4]) (by kernel_rfl) (by simp) ?_
    refine AllReadyH.cons (o := _) rfl (fun K hK => ?_) AllReadyH.nil
    refine step_append_shares (base := w.heap.size) (n := 0) (m := k) (l1 := []) (l := ll.take k) (s := .tmp 5) (x := .tmp 8) (by rfl) (by rfl) (by rfl) (by rfl) rfl HTL.out (RowS.made w.heap.size w (Nat.le_refl _)) (by omega) (by omega) (by simp) ((H.out.ext ((Ext.refl w).drew.alloc _)).take k) ?_; intro sg c4 w4 R4 hb4
    have E4 := ((Ext.refl w).drew.alloc _).below hb4 (Nat.le_refl _)
    refine hK.out _ _ ⟨trivial, trivial⟩ (fun hHeld => ?_); clear hK K
    (try simp only [List.getElem_toArray, List.getElem_cons_succ, List.getElem_cons_zero, Act.put, List.setIfInBounds_toArray, List.set_cons_zero, List.set_cons_succ])
    refine wpAnyH_ready (rs := [9]) (by kernel_rfl) (by simp) ?_
    refine AllReadyH.cons (o := _) rfl (fun K hK => ?_) AllReadyH.nil
    refine step_append_shares (base := w.heap.size) (n := 0 + k) (m := 0) (l1 := [] ++ ll.take k) (l := ll.drop (k + 1)) (s := .tmp 9) (x := .tmp 13) (by rfl) (by rfl) (by rfl) (by rfl) HTL2.out HDL0.out R4 (by omega) (by omega) E4.size (HSD.out.ext E4) ?_; intro sh c9 w9 R9 hb9
    have E9 := E4.below hb9 (Nat.le_refl _)
    refine hK.out _ _ ⟨trivial, trivial⟩ (fun hHeld => ?_); clear hK K
    (try simp only [List.getElem_toArray, List.getElem_cons_succ, List.getElem_cons_zero, Act.put, List.setIfInBounds_toArray, List.set_cons_zero, List.set_cons_succ])
    refine wpAnyH_ready (rs := [10]) (by kernel_rfl) (by simp) ?_
    refine AllReadyH.cons (o := _) rfl (fun K hK => ?_) AllReadyH.nil
    go_simp
    refine hK.out _ _ ⟨trivial, trivial⟩ (fun hHeld => ?_); clear hK K
    (try simp only [List.getElem_toArray, List.getElem_cons_succ, List.getElem_cons_zero, Act.put, List.setIfInBounds_toArray, List.set_cons_zero, List.set_cons_succ])
    refine wpAnyH_done (by kernel_rfl) ?_ _
    clear hb4 hb9 R4
    go_wp2
    go_ret
    exact ⟨sh, c9, by rw [HLN0.out]; rfl, by rw [← HDR.out]; exact R9, E9⟩
  · have HSD := hide (HSp.drop (k + 1))
    have hkcap2 : ¬ cap = k + 1 := fun e => hkcap e.symm
    go_enter Try.func18, Try.ntmps18
    go_wp2
    refine wp_region_held_drew (S := fun _ => True ∧ True) (by kernel_rfl) (by first | exact ⟨trivial, trivial⟩) (fun hHeld => ?_)
    refine wpAnyH_take (i := 1) (oi := _) (v := ?_) rfl (by kernel_rfl) (by kernel_rfl) (by kernel_rfl) (fun _ _ _ h => h) (Or.inl ⟨by rfl, ?_⟩) (by assumption) ?_
    rotate_left
    · (intro w hSw; (try dsimp only at hSw); go_simp; (try with_reducible rfl))
    (try simp only [List.getElem_toArray, List.getElem_cons_succ, List.getElem_cons_zero, Act.put, List.setIfInBounds_toArray, List.set_cons_zero, List.set_cons_succ])
    refine wpAnyH_take (i := 2) (oi := _) (v := ?_) rfl (by kernel_rfl) (by kernel_rfl) (by kernel_rfl) (fun _ _ _ h => h) (Or.inl ⟨by rfl, ?_⟩) (by assumption) ?_
    rotate_left
    · (intro w hSw; (try dsimp only at hSw); go_simp; (try with_reducible rfl))
    (try simp only [List.getElem_toArray, List.getElem_cons_succ, List.getElem_cons_zero, Act.put, List.setIfInBounds_toArray, List.set_cons_zero, List.set_cons_succ])
    refine wpAnyH_take (i := 3) (oi := _) (v := ?_) rfl (by kernel_rfl) (by kernel_rfl) (by kernel_rfl) (fun _ _ _ h => h) (Or.inl ⟨by rfl, ?_⟩) (by assumption) ?_
    rotate_left
    · (intro w hSw; (try dsimp only at hSw); go_simp; (try with_reducible rfl))
    (try simp only [List.getElem_toArray, List.getElem_cons_succ, List.getElem_cons_zero, Act.put, List.setIfInBounds_toArray, List.set_cons_zero, List.set_cons_succ])
    refine wpAnyH_take (i := 5) (oi := _) (v := ?_) rfl (by kernel_rfl) (by kernel_rfl) (by kernel_rfl) (fun _ _ _ h => h) (Or.inl ⟨by rfl, ?_⟩) (by assumption) ?_
    rotate_left
    · (intro w hSw; (try dsimp only at hSw); go_simp; (try with_reducible rfl))
    (try simp only [List.getElem_toArray, List.getElem_cons_succ, List.getElem_cons_zero, Act.put, List.setIfInBounds_toArray, List.set_cons_zero, List.set_cons_succ])
    refine wpAnyH_take (i := 6) (oi := _) (v := ?_) rfl (by kernel_rfl) (by kernel_rfl) (by kernel_rfl) (fun _ _ _ h => h) (Or.inl ⟨by rfl, ?_⟩) (by assumption) ?_
    rotate_left
    · (intro w hSw; (try dsimp only at hSw); go_simp; (try with_reducible rfl))
    (try simp only [List.getElem_toArray, List.getElem_cons_succ, List.getElem_cons_zero, Act.put, List.setIfInBounds_toArray, List.set_cons_zero, List.set_cons_succ])
    refine wpAnyH_take (i := 7) (oi := _) (v := ?_) rfl (by kernel_rfl) (by kernel_rfl) (by kernel_rfl) (fun _ _ _ h => h) (Or.inl ⟨by rfl, ?_⟩) (by assumption) ?_
    rotate_left
    · (intro w hSw; (try dsimp only at hSw); go_simp; (try with_reducible rfl))
    (try simp only [List.getElem_toArray, List.getElem_cons_succ, List.getElem_cons_zero, Act.put, List.setIfInBounds_toArray, List.set_cons_zero, List.set_cons_succ])
    refine wpAnyH_take (i := 8) (oi := _) (v := ?_) rfl (by kernel_rfl) (by kernel_rfl) (by kernel_rfl) (fun _ _ _ h => h) (Or.inl ⟨by rfl, ?_⟩) (by assumption) ?_
    rotate_left
    · (intro w hSw; (try dsimp only at hSw); go_simp; (try with_reducible rfl))
    (try simp only [List.getElem_toArray, List.getElem_cons_succ, List.getElem_cons_zero, Act.put, List.setIfInBounds_toArray, List.set_cons_zero, List.set_cons_succ])
    refine wpAnyH_ready (rs := [0]) (by kernel_rfl) (by simp) ?_
    refine AllReadyH.cons (o := _) rfl (fun K hK => ?_) AllReadyH.nil
    go_simp
    refine hK.out _ _ ⟨trivial, trivial⟩ (fun hHeld => ?_); clear hK K
    (try simp only [List.getElem_toArray, List.getElem_cons_zero, Act.put, List.setIfInBounds_toArray, List.set_cons_zero, List.set_cons_succ])
    refine wpAnyH_ready (rs := [4]) (by kernel_rfl) (by simp) ?_
    refine AllReadyH.cons (o := _) rfl (fun K hK => ?_) AllReadyH.nil
    refine step_append_shares (base := w.heap.size) (n := 0) (m := k) (l1 := []) (l := ll.take k) (s := .tmp 5) (x := .tmp 8) (by rfl) (by rfl) (by rfl) (by rfl) rfl HTL.out (RowS.made w.heap.size w (Nat.le_refl _)) (by omega) (by omega) (by simp) ((H.out.ext ((Ext.refl w).drew.alloc _)).take k) ?_; intro sg c4 w4 R4 hb4
    have E4 := ((Ext.refl w).drew.alloc _).below hb4 (Nat.le_refl _)
    refine hK.out _ _ ⟨trivial, trivial⟩ (fun hHeld => ?_); clear hK K
    (try simp only [List.getElem_toArray, List.getElem_cons_succ, List.getElem_cons_zero, Act.put, List.setIfInBounds_toArray, List.set_cons_zero, List.set_cons_succ])
    refine wpAnyH_ready (rs := [9]) (by kernel_rfl) (by simp) ?_
    refine AllReadyH.cons (o := _) rfl (fun K hK => ?_) AllReadyH.nil
    refine step_append_shares (base := w.heap.size) (n := 0 + k) (m := ll.length - (k + 1)) (l1 := [] ++ ll.take k) (l := ll.drop (k + 1)) (s := .tmp 9) (x := .tmp 13) (by rfl) (by rfl) (by rfl) (by rfl) HTL2.out HDL.out R4 (by omega) (by omega) E4.size (HSD.out.ext E4) ?_; intro sh c9 w9 R9 hb9
    have E9 := E4.below hb9 (Nat.le_refl _)
    refine hK.out _ _ ⟨trivial, trivial⟩ (fun hHeld => ?_); clear hK K
    (try simp only [List.getElem_toArray, List.getElem_cons_succ, List.getElem_cons_zero, Act.put, List.setIfInBounds_toArray, List.set_cons_zero, List.set_cons_succ])
    refine wpAnyH_ready (rs := [10]) (by kernel_rfl) (by simp) ?_
    refine AllReadyH.cons (o := _) rfl (fun K hK => ?_) AllReadyH.nil
    go_simp
    refine hK.out _ _ ⟨trivial, trivial⟩ (fun hHeld => ?_); clear hK K
    (try simp only [List.getElem_toArray, List.getElem_cons_succ, List.getElem_cons_zero, Act.put, List.setIfInBounds_toArray, List.set_cons_zero, List.set_cons_succ])
    refine wpAnyH_done (by kernel_rfl) ?_ _
    clear hb4 hb9 R4
    go_wp2
    go_ret
    exact ⟨sh, c9, by rw [HLN.out]; rfl, by rw [← HDR.out]; exact R9, E9⟩
set_option maxHeartbeats 1000000 in
theorem specDrop (sa : Option Addr) (cap n k : Nat) (ll : List Sh) (w : World) (h : Sst w sa ll) (hn : ll.length = n) (hl : n ≤ 1000) (hcap : n ≤ cap) (hk : k < n) :
    Calls Try.prog 57 #[.slice sa n cap, .int .i64 k] w (RetS (drp ll k) w) := by
  subst hn
  have H := hide h; clear h
  have HTL := hide (show (ll.take k).length = k by rw [List.length_take]; omega)
  have HTL2 := hide (show ([] ++ ll.take k).length = 0 + k by rw [List.nil_append, HTL.out]; omega)
  have HDL := hide (show (ll.drop (k + 1)).length = ll.length - (k + 1) by rw [List.length_drop])
  have HDR := hide (show [] ++ ll.take k ++ ll.drop (k + 1) = drp ll k by rw [List.nil_append]; rfl)
  have HLN := hide (show (drp ll k).length = k + (ll.length - (k + 1)) by rw [drp_len hk]; omega)
  obtain ⟨g, off, rfl, hg, HSp⟩ := H.out.spot (show 0 < ll.length by omega)
  have hw1 : IntKind.i64.wrap ((k : Int) + 1) = (k : Int) + 1 := IntWalk.i64_in _ (by omega)
  have hkc : (k : Int) ≤ (cap : Int) := by omega
  have hk1 : (k : Int) + 1 ≤ (ll.length : Int) := by omega
  have hk2 : (0 : Int) ≤ (k : Int) + 1 := by omega
  have hk3 : ((k : Int) + 1).toNat = k + 1 := by omega
  have hk4 : k + 1 ≤ ll.length := by omega
  have hk5 : k ≤ ll.length := by omega
  by_cases hkcap : k + 1 = cap
  · have HDL0 := hide (show (ll.drop (k + 1)).length = 0 by rw [HDL.out]; omega)
    have HLN0 := hide (show (drp ll k).length = k by rw [HLN.out]; omega)
    have HSD := hide (show Sst w (some ⟨g, off, none⟩) (ll.drop (k + 1)) from .inl (List.length_eq_zero_iff.1 HDL0.out))
    go_enter Try.func57, Try.ntmps57
    go_wp2
    refine wp_region_held_drew (S := fun _ => True ∧ True) (by kernel_rfl) (by first | exact ⟨trivial, trivial⟩) (fun hHeld => ?_)
    refine wpAnyH_take (i := 1) (oi := _) (v := ?_) rfl (by kernel_rfl) (by kernel_rfl) (by kernel_rfl) (fun _ _ _ h => h) (Or.inl ⟨by rfl, ?_⟩) (by assumption) ?_
    rotate_left
    · (intro w hSw; (try dsimp only at hSw); go_simp; (try with_reducible rfl))
    (try simp only [List.getElem_toArray, List.getElem_cons_succ, List.getElem_cons_zero, Act.put, List.setIfInBounds_toArray, List.set_cons_zero, List.set_cons_succ])
    refine wpAnyH_take (i := 2) (oi := _) (v := ?_) rfl (by kernel_rfl) (by kernel_rfl) (by kernel_rfl) (fun _ _ _ h => h) (Or.inl ⟨by rfl, ?_⟩) (by assumption) ?_
    rotate_left
    · (intro w hSw; (try dsimp only at hSw); go_simp; (try with_reducible rfl))
    (try simp only [List.getElem_toArray, List.getElem_cons_succ, List.getElem_cons_zero, Act.put, List.setIfInBounds_toArray, List.set_cons_zero, List.set_cons_succ])
    refine wpAnyH_take (i := 3) (oi := _) (v := ?_) rfl (by kernel_rfl) (by kernel_rfl) (by kernel_rfl) (fun _ _ _ h => h) (Or.inl ⟨by rfl, ?_⟩) (by assumption) ?_
    rotate_left
    · (intro w hSw; (try dsimp only at hSw); go_simp; (try with_reducible rfl))
    (try simp only [List.getElem_toArray, List.getElem_cons_succ, List.getElem_cons_zero, Act.put, List.setIfInBounds_toArray, List.set_cons_zero, List.set_cons_succ])
    refine wpAnyH_take (i := 5) (oi := _) (v := ?_) rfl (by kernel_rfl) (by kernel_rfl) (by kernel_rfl) (fun _ _ _ h => h) (Or.inl ⟨by rfl, ?_⟩) (by assumption) ?_
    rotate_left
    · (intro w hSw; (try dsimp only at hSw); go_simp; (try with_reducible rfl))
    (try simp only [List.getElem_toArray, List.getElem_cons_succ, List.getElem_cons_zero, Act.put, List.setIfInBounds_toArray, List.set_cons_zero, List.set_cons_succ])
    refine wpAnyH_take (i := 6) (oi := _) (v := ?_) rfl (by kernel_rfl) (by kernel_rfl) (by kernel_rfl) (fun _ _ _ h => h) (Or.inl ⟨by rfl, ?_⟩) (by assumption) ?_
    rotate_left
    · (intro w hSw; (try dsimp only at hSw); go_simp; (try with_reducible rfl))
    (try simp only [List.getElem_toArray, List.getElem_cons_succ, List.getElem_cons_zero, Act.put, List.setIfInBounds_toArray, List.set_cons_zero, List.set_cons_succ])
    refine wpAnyH_take (i := 7) (oi := _) (v := ?_) rfl (by kernel_rfl) (by kernel_rfl) (by kernel_rfl) (fun _ _ _ h => h) (Or.inl ⟨by rfl, ?_⟩) (by assumption) ?_
    rotate_left
    · (intro w hSw; (try dsimp only at hSw); go_simp; (try with_reducible rfl))
    (try simp only [List.getElem_toArray, List.getElem_cons_succ, List.getElem_cons_zero, Act.put, List.setIfInBounds_toArray, List.set_cons_zero, List.set_cons_succ])
    refine wpAnyH_take (i := 8) (oi := _) (v := ?_) rfl (by kernel_rfl) (by kernel_rfl) (by kernel_rfl) (fun _ _ _ h => h) (Or.inl ⟨by rfl, ?_⟩) (by assumption) ?_
    rotate_left
    · (intro w hSw; (try dsimp only at hSw); go_simp; (try with_reducible rfl))
    (try simp only [List.getElem_toArray, List.getElem_cons_succ, List.getElem_cons_zero, Act.put, List.setIfInBounds_toArray, List.set_cons_zero, List.set_cons_succ])
    refine wpAnyH_ready (rs := [0]) (by kernel_rfl) (by simp) ?_
    refine AllReadyH.cons (o := _) rfl (fun K hK => ?_) AllReadyH.nil
    go_simp
    refine hK.out _ _ ⟨trivial, trivial⟩ (fun hHeld => ?_); clear hK K
    (try simp only [List.getElem_toArray, List.getElem_cons_zero, Act.put, List.setIfInBounds_toArray, List.set_cons_zero, List.set_cons_succ])
    refine wpAnyH_ready (rs := [4]) (by kernel_rfl) (by simp) ?_
    refine AllReadyH.cons (o := _) rfl (fun K hK => ?_) AllReadyH.nil
    refine step_append_shares (base := w.heap.size) (n := 0) (m := k) (l1 := []) (l := ll.take k) (s := .tmp 5) (x := .tmp 8) (by rfl) (by rfl) (by rfl) (by rfl) rfl HTL.out (RowS.made w.heap.size w (Nat.le_refl _)) (by omega) (by omega) (by simp) ((H.out.ext ((Ext.refl w).drew.alloc _)).take k) ?_; intro sg c4 w4 R4 hb4
    have E4 := ((Ext.refl w).drew.alloc _).below hb4 (Nat.le_refl _)
    refine hK.out _ _ ⟨trivial, trivial⟩ (fun hHeld => ?_); clear hK K
    (try simp only [List.getElem_toArray, List.getElem_cons_succ, List.getElem_cons_zero, Act.put, List.setIfInBounds_toArray, List.set_cons_zero, List.set_cons_succ])
    refine wpAnyH_ready (rs := [9]) (by kernel_rfl) (by simp) ?_
    refine AllReadyH.cons (o := _) rfl (fun K hK => ?_) AllReadyH.nil
    refine step_append_shares (base := w.heap.size) (n := 0 + k) (m := 0) (l1 := [] ++ ll.take k) (l := ll.drop (k + 1)) (s := .tmp 9) (x := .tmp 13) (by rfl) (by rfl) (by rfl) (by rfl) HTL2.out HDL0.out R4 (by omega) (by omega) E4.size (HSD.out.ext E4) ?_; intro sh c9 w9 R9 hb9
    have E9 := E4.below hb9 (Nat.le_refl _)
    refine hK.out _ _ ⟨trivial, trivial⟩ (fun hHeld => ?_); clear hK K
    (try simp only [List.getElem_toArray, List.getElem_cons_succ, List.getElem_cons_zero, Act.put, List.setIfInBounds_toArray, List.set_cons_zero, List.set_cons_succ])
    refine wpAnyH_ready (rs := [10]) (by kernel_rfl) (by simp) ?_
    refine AllReadyH.cons (o := _) rfl (fun K hK => ?_) AllReadyH.nil
    go_simp
    refine hK.out _ _ ⟨trivial, trivial⟩ (fun hHeld => ?_); clear hK K
    (try simp only [List.getElem_toArray, List.getElem_cons_succ, List.getElem_cons_zero, Act.put, List.setIfInBounds_toArray, List.set_cons_zero, List.set_cons_succ])
    refine wpAnyH_done (by kernel_rfl) ?_ _
    clear hb4 hb9 R4
    go_wp2
    go_ret
    exact ⟨sh, c9, by rw [HLN0.out]; rfl, by rw [← HDR.out]; exact R9, E9⟩
  · have HSD := hide (HSp.drop (k + 1))
    have hkcap2 : ¬ cap = k + 1 := fun e => hkcap e.symm
    go_enter Try.func57, Try.ntmps57
    go_wp2
    refine wp_region_held_drew (S := fun _ => True ∧ True) (by kernel_rfl) (by first | exact ⟨trivial, trivial⟩) (fun hHeld => ?_)
    refine wpAnyH_take (i := 1) (oi := _) (v := ?_) rfl (by kernel_rfl) (by kernel_rfl) (by kernel_rfl) (fun _ _ _ h => h) (Or.inl ⟨by rfl, ?_⟩) (by assumption) ?_
    rotate_left
    · (intro w hSw; (try dsimp only at hSw); go_simp; (try with_reducible rfl))
    (try simp only [List.getElem_toArray, List.getElem_cons_succ, List.getElem_cons_zero, Act.put, List.setIfInBounds_toArray, List.set_cons_zero, List.set_cons_succ])
    refine wpAnyH_take (i := 2) (oi := _) (v := ?_) rfl (by kernel_rfl) (by kernel_rfl) (by kernel_rfl) (fun _ _ _ h => h) (Or.inl ⟨by rfl, ?_⟩) (by assumption) ?_
    rotate_left
    · (intro w hSw; (try dsimp only at hSw); go_simp; (try with_reducible rfl))
    (try simp only [List.getElem_toArray, List.getElem_cons_succ, List.getElem_cons_zero, Act.put, List.setIfInBounds_toArray, List.set_cons_zero, List.set_cons_succ])
    refine wpAnyH_take (i := 3) (oi := _) (v := ?_) rfl (by kernel_rfl) (by kernel_rfl) (by kernel_rfl) (fun _ _ _ h => h) (Or.inl ⟨by rfl, ?_⟩) (by assumption) ?_
    rotate_left
    · (intro w hSw; (try dsimp only at hSw); go_simp; (try with_reducible rfl))
    (try simp only [List.getElem_toArray, List.getElem_cons_succ, List.getElem_cons_zero, Act.put, List.setIfInBounds_toArray, List.set_cons_zero, List.set_cons_succ])
    refine wpAnyH_take (i := 5) (oi := _) (v := ?_) rfl (by kernel_rfl) (by kernel_rfl) (by kernel_rfl) (fun _ _ _ h => h) (Or.inl ⟨by rfl, ?_⟩) (by assumption) ?_
    rotate_left
    · (intro w hSw; (try dsimp only at hSw); go_simp; (try with_reducible rfl))
    (try simp only [List.getElem_toArray, List.getElem_cons_succ, List.getElem_cons_zero, Act.put, List.setIfInBounds_toArray, List.set_cons_zero, List.set_cons_succ])
    refine wpAnyH_take (i := 6) (oi := _) (v := ?_) rfl (by kernel_rfl) (by kernel_rfl) (by kernel_rfl) (fun _ _ _ h => h) (Or.inl ⟨by rfl, ?_⟩) (by assumption) ?_
    rotate_left
    · (intro w hSw; (try dsimp only at hSw); go_simp; (try with_reducible rfl))
    (try simp only [List.getElem_toArray, List.getElem_cons_succ, List.getElem_cons_zero, Act.put, List.setIfInBounds_toArray, List.set_cons_zero, List.set_cons_succ])
    refine wpAnyH_take (i := 7) (oi := _) (v := ?_) rfl (by kernel_rfl) (by kernel_rfl) (by kernel_rfl) (fun _ _ _ h => h) (Or.inl ⟨by rfl, ?_⟩) (by assumption) ?_
    rotate_left
    · (intro w hSw; (try dsimp only at hSw); go_simp; (try with_reducible rfl))
    (try simp only [List.getElem_toArray, List.getElem_cons_succ, List.getElem_cons_zero, Act.put, List.setIfInBounds_toArray, List.set_cons_zero, List.set_cons_succ])
    refine wpAnyH_take (i := 8) (oi := _) (v := ?_) rfl (by kernel_rfl) (by kernel_rfl) (by kernel_rfl) (fun _ _ _ h => h) (Or.inl ⟨by rfl, ?_⟩) (by assumption) ?_
    rotate_left
    · (intro w hSw; (try dsimp only at hSw); go_simp; (try with_reducible rfl))
    (try simp only [List.getElem_toArray, List.getElem_cons_succ, List.getElem_cons_zero, Act.put, List.setIfInBounds_toArray, List.set_cons_zero, List.set_cons_succ])
    refine wpAnyH_ready (rs := [0]) (by kernel_rfl) (by simp) ?_
    refine AllReadyH.cons (o := _) rfl (fun K hK => ?_) AllReadyH.nil
    go_simp
    refine hK.out _ _ ⟨trivial, trivial⟩ (fun hHeld => ?_); clear hK K
    (try simp only [List.getElem_toArray, List.getElem_cons_zero, Act.put, List.setIfInBounds_toArray, List.set_cons_zero, List.set_cons_succ])
    refine wpAnyH_ready (rs := [4]) (by kernel_rfl) (by simp) ?_
    refine AllReadyH.cons (o := _) rfl (fun K hK => ?_) AllReadyH.nil
    refine step_append_shares (base := w.heap.size) (n := 0) (m := k) (l1 := []) (l := ll.take k) (s := .tmp 5) (x := .tmp 8) (by rfl) (by rfl) (by rfl) (by rfl) rfl HTL.out (RowS.made w.heap.size w (Nat.le_refl _)) (by omega) (by omega) (by simp) ((H.out.ext ((Ext.refl w).drew.alloc _)).take k) ?_; intro sg c4 w4 R4 hb4
    have E4 := ((Ext.refl w).drew.alloc _).below hb4 (Nat.le_refl _)
    refine hK.out _ _ ⟨trivial, trivial⟩ (fun hHeld => ?_); clear hK K
    (try simp only [List.getElem_toArray, List.getElem_cons_succ, List.getElem_cons_zero, Act.put, List.setIfInBounds_toArray, List.set_cons_zero, List.set_cons_succ])
    refine wpAnyH_ready (rs := [9]) (by kernel_rfl) (by simp) ?_
    refine AllReadyH.cons (o := _) rfl (fun K hK => ?_) AllReadyH.nil
    refine step_append_shares (base := w.heap.size) (n := 0 + k) (m := ll.length - (k + 1)) (l1 := [] ++ ll.take k) (l := ll.drop (k + 1)) (s := .tmp 9) (x := .tmp 13) (by rfl) (by rfl) (by rfl) (by rfl) HTL2.out HDL.out R4 (by omega) (by omega) E4.size (HSD.out.ext E4) ?_; intro sh c9 w9 R9 hb9
    have E9 := E4.below hb9 (Nat.le_refl _)
    refine hK.out _ _ ⟨trivial, trivial⟩ (fun hHeld => ?_); clear hK K
    (try simp only [List.getElem_toArray, List.getElem_cons_succ, List.getElem_cons_zero, Act.put, List.setIfInBounds_toArray, List.set_cons_zero, List.set_cons_succ])
    refine wpAnyH_ready (rs := [10]) (by kernel_rfl) (by simp) ?_
    refine AllReadyH.cons (o := _) rfl (fun K hK => ?_) AllReadyH.nil
    go_simp
    refine hK.out _ _ ⟨trivial, trivial⟩ (fun hHeld => ?_); clear hK K
    (try simp only [List.getElem_toArray, List.getElem_cons_succ, List.getElem_cons_zero, Act.put, List.setIfInBounds_toArray, List.set_cons_zero, List.set_cons_succ])
    refine wpAnyH_done (by kernel_rfl) ?_ _
    clear hb4 hb9 R4
    go_wp2
    go_ret
    exact ⟨sh, c9, by rw [HLN.out]; rfl, by rw [← HDR.out]; exact R9, E9⟩
theorem wo_step {ll : List Sh} {k i : Nat} (hk : k < ll.length) (e : k ≠ i) : (ll.eraseIdx i).take (if k ≤ i then k else k - 1) ++ [ll.getD k Sh.z] = (ll.eraseIdx i).take (if k + 1 ≤ i then k + 1 else k) := by
  have h1 : ∀ j, (ll.eraseIdx i)[j]? = if j < i then ll[j]? else ll[j + 1]? := fun j => List.getElem?_eraseIdx ..
  have hgo : ∀ j, (j < i ∧ j = k ∨ i ≤ j ∧ j + 1 = k) → (ll.eraseIdx i).take j ++ [ll.getD k Sh.z] = (ll.eraseIdx i).take (j + 1) := by
    intro j hj
    have h2 : (ll.eraseIdx i)[j]? = some (ll.getD k Sh.z) := by
      rw [h1, List.getD_eq_getElem?_getD, List.getElem?_eq_getElem hk]
      rcases hj with ⟨a, rfl⟩ | ⟨a, b⟩
      · rw [if_pos a, List.getElem?_eq_getElem hk]; rfl
      · rw [if_neg (by omega), b, List.getElem?_eq_getElem hk]; rfl
    obtain ⟨hj2, e2⟩ := List.getElem?_eq_some_iff.1 h2
    rw [List.take_succ_eq_append_getElem hj2, e2]
  rcases Nat.lt_or_ge k i with h | h
  · rw [if_pos (by omega), if_pos (by omega)]; exact hgo k (.inl ⟨h, rfl⟩)
  · rw [if_neg (by omega), if_neg (by omega)]
    have := hgo (k - 1) (.inr ⟨by omega, by omega⟩)
    rw [show k - 1 + 1 = k by omega] at this; exact this
theorem wo_skip {ll : List Sh} {i : Nat} : (ll.eraseIdx i).take (if i ≤ i then i else i - 1) = (ll.eraseIdx i).take (if i + 1 ≤ i then i + 1 else i) := by
  rw [if_pos (Nat.le_refl _), if_neg (by omega)]
theorem wo_end {ll : List Sh} {i : Nat} (hi : i < ll.length) : (ll.eraseIdx i).take (if ll.length ≤ i then ll.length else ll.length - 1) = drp ll i := by
  rw [if_neg (by omega), drp_eq, List.take_of_length_le]
  rw [List.length_eraseIdx_of_lt hi]; exact Nat.le_refl _
set_option maxHeartbeats 800000 in
theorem implDrop (sa : Option Addr) (cap n i : Nat) (ll : List Sh) (w : World) (h : Sst w sa ll) (hn : ll.length = n) (hl : n ≤ 1000) (hi : i < n) :
    Calls Try.prog 59 #[.slice sa n cap, .int .i64 i] w (RetS (drp ll i) w) := by
  subst hn
  have H := hide h; clear h
  have HST := hide (fun k hk e => @wo_step ll k i hk e)
  have HSK := hide (@wo_skip ll i)
  have HEN := hide (wo_end hi)
  go_enter Try.func59, Try.ntmps59
  go_wp2
  go_loopw [5, 10] (fun u j wr => ∃ (k : Nat) (s2 : Option Addr) (c2 : Nat) (o : List Sh), k ≤ ll.length ∧ j = .int .i64 k ∧ u = .slice s2 o.length c2 ∧ o.length ≤ k ∧ Hid (o = (ll.eraseIdx i).take (if k ≤ i then k else k - 1)) ∧ RowS w.heap.size wr s2 c2 o ∧ Ext w wr) (fun _ j _ => ll.length - (intOf j).toNat)
  case atStart => exact ⟨0, none, 0, [], Nat.zero_le _, rfl, rfl, Nat.le_refl _, (show [] = (ll.eraseIdx i).take (if 0 ≤ i then 0 else 0 - 1) by rw [if_pos (Nat.zero_le _)]; rfl), RowS.nil _ _, Ext.refl _⟩
  case round =>
    obtain ⟨k, s2, c2, o, hk, rfl, rfl, ho, HO, hR, hE⟩ := hrel
    by_cases hlt : k < ll.length
    · obtain ⟨g, off, rfl, hg, q0, q1⟩ := (H.out.ext hE).at hlt
      by_cases hki : k = i
      · have HO2 := hide (show o = (ll.eraseIdx i).take (if k + 1 ≤ i then k + 1 else k) by rw [HO.out, hki]; exact HSK.out)
        have hd : ((k : Int) != (i : Int)) = false := by rw [hki]; simp
        have HKI := hide hki; clear hki
        obtain ⟨x, hx⟩ : ∃ x, x = (ll.getD k Sh.z).x := ⟨_, rfl⟩; rw [← hx] at q0
        obtain ⟨y, hy⟩ : ∃ y, y = (ll.getD k Sh.z).y := ⟨_, rfl⟩; rw [← hy] at q1
        clear hx hy
        have EA := hE.alloc (.cells #[.int .i64 x, .int .i64 y] 40)
        have hR1 := hR.ext ((Ext.refl wr).alloc (.cells #[.int .i64 x, .int .i64 y] 40))
        go_wp2
        go_roundw
        case rel => exact ⟨k + 1, s2, c2, o, by omega, by go_num, rfl, by omega, HO2, hR1, EA⟩
        case measure => (first | (simp [intOf]; done) | (simp [intOf]; omega))
      · have HO2 := hide (show o ++ [⟨(ll.getD k Sh.z).x, (ll.getD k Sh.z).y⟩] = (ll.eraseIdx i).take (if k + 1 ≤ i then k + 1 else k) by rw [HO.out]; exact HST.out k hlt hki)
        have hd : ((k : Int) != (i : Int)) = true := by rw [bne_iff_ne]; omega
        obtain ⟨x, hx⟩ : ∃ x, x = (ll.getD k Sh.z).x := ⟨_, rfl⟩; rw [← hx] at q0 HO2
        obtain ⟨y, hy⟩ : ∃ y, y = (ll.getD k Sh.z).y := ⟨_, rfl⟩; rw [← hy] at q1 HO2
        clear hx hy hki
        have EA := hE.alloc (.cells #[.int .i64 x, .int .i64 y] 40)
        have X1 := Box.new wr #[.int .i64 x, .int .i64 y] 40
        obtain ⟨y0, y1, _, _⟩ := X1.two
        have hR1 := hR.ext (((Ext.refl wr).alloc (.cells #[.int .i64 x, .int .i64 y] 40)).alloc (.cells #[.int .i64 x, .int .i64 y] 40))
        have EB := EA.alloc (.cells #[.int .i64 x, .int .i64 y] 40)
        have X2 := Box.newAt (wr.alloc (.cells #[.int .i64 x, .int .i64 y] 40)) (wr.heap.size + 1) #[.int .i64 x, .int .i64 y] 40 (by simp)
        go_wp2_with (first | (at_builtin; refine append_share rfl (.tmp 18) (.tmp 20) rfl w.heap.size _ s2 c2 o.length (wr.heap.size + 1) o ⟨x, y⟩ 40 rfl (show Value.slice (some ⟨wr.heap.size + 1, 0, none⟩) 1 1 = _ by simp) rfl X2 hR1 (by omega) EB.size ?_; intro g3 cap3 w3 R3 hb3 ha3 hc3))
        have E4 := EB.below hb3 (Nat.le_refl _)
        clear hb3 ha3 hc3 X1 X2
        go_wp2
        go_roundw
        case rel => exact ⟨k + 1, _, _, o ++ [⟨x, y⟩], by omega, by go_num, by rw [List.length_append]; rfl, by rw [List.length_append]; simp; omega, HO2, R3, E4⟩
        case measure => (first | (simp [intOf]; done) | (simp [intOf]; omega))
    · obtain rfl : k = ll.length := by omega
      have HF := hide (show drp ll i = o by rw [HO.out, HEN.out])
      go_wp2
      go_ret
      exact ⟨s2, c2, by rw [HF.out]; rfl, by rw [HF.out]; exact hR, hE⟩
open Classical in
/-- the share that does not fit the others -/
noncomputable def wsR (ll : List Sh) (need : Int) : Int :=
  if svOk ll ∧ 1 ≤ need ∧ need ≤ 8 ∧ need + 2 ≤ ll.length ∧ ¬ fit ll need.toNat then (if h : ∃ i, i < ll.length ∧ fit (drp ll i) need.toNat then (Classical.choose h : Nat) else -1) else -1
theorem wsR_no {ll : List Sh} {need : Int} (h : ¬ (svOk ll ∧ 1 ≤ need ∧ need ≤ 8 ∧ need + 2 ≤ ll.length ∧ ¬ fit ll need.toNat)) : wsR ll need = -1 := if_neg h
theorem wsR_at {ll : List Sh} {m i : Nat} (h : svOk ll) (h1 : 1 ≤ m) (h8 : m ≤ 8) (hl : m + 2 ≤ ll.length) (hf : ¬ fit ll m) (hi : i < ll.length) (hd : fit (drp ll i) m) : wsR ll (m : Int) = i := by
  unfold wsR
  rw [if_pos ⟨h, by omega, by omega, by omega, by rw [Int.toNat_natCast]; exact hf⟩]
  have hx : ∃ i, i < ll.length ∧ fit (drp ll i) (m : Int).toNat := ⟨i, hi, by rw [Int.toNat_natCast]; exact hd⟩
  rw [dif_pos hx]
  have hs := Classical.choose_spec hx
  obtain ⟨j, hj⟩ : ∃ j, j = Classical.choose hx := ⟨_, rfl⟩
  rw [← hj] at hs ⊢
  rw [Int.toNat_natCast] at hs
  by_cases e : j = i
  · rw [e]
  · exact absurd (one_wrong h.gd hl hs.1 hi e hs.2 hd) hf
theorem wsR_none {ll : List Sh} {m : Nat} (hd : ∀ i, i < ll.length → ¬ fit (drp ll i) m) : wsR ll (m : Int) = -1 := by
  unfold wsR
  split
  · rw [dif_neg]
    rintro ⟨i, hi, h⟩
    rw [Int.toNat_natCast] at h
    exact hd i hi h
  · rfl
theorem wsR_bd (ll : List Sh) (need : Int) : wsR ll need = -1 ∨ (∃ i : Nat, wsR ll need = (i : Int) ∧ i < ll.length ∧ fit (drp ll i) need.toNat ∧ svOk ll ∧ 1 ≤ need ∧ need ≤ 8 ∧ need + 2 ≤ ll.length ∧ ¬ fit ll need.toNat) := by
  by_cases h : svOk ll ∧ 1 ≤ need ∧ need ≤ 8 ∧ need + 2 ≤ ll.length ∧ ¬ fit ll need.toNat
  · by_cases hx : ∃ i, i < ll.length ∧ fit (drp ll i) need.toNat
    · right
      have hs := Classical.choose_spec hx
      refine ⟨Classical.choose hx, ?_, hs.1, hs.2, h⟩
      unfold wsR; rw [if_pos h, dif_pos hx]
    · left; unfold wsR; rw [if_pos h, dif_neg hx]
  · left; exact wsR_no h
theorem nfit_succ {ll : List Sh} {m k : Nat} (h : ∀ j, j < k → ¬ fit (drp ll j) m) (hk : ¬ fit (drp ll k) m) : ∀ j, j < k + 1 → ¬ fit (drp ll j) m := fun j hj => by
  by_cases e : j = k
  · rw [e]; exact hk
  · exact h j (by omega)
set_option maxHeartbeats 1600000 in
theorem implWS (sa : Option Addr) (cap n : Nat) (ll : List Sh) (need : Int) (w : World) (h : Sst w sa ll) (hn : ll.length = n) (hl : n ≤ 2000000) (hcap : n ≤ cap) :
    Calls Try.prog 22 #[.slice sa n cap, .int .i64 need] w (Ret (.int .i64 (wsR ll need)) w) := by
  subst hn
  have H := hide h; clear h
  by_cases hv : svOk ll
  · have hvb := svB_yes hv
    have h12 := hv.len
    by_cases h8 : inr need 1 8 = true
    · have h82 := inr_iff.1 h8
      obtain ⟨m, rfl⟩ := Int.eq_ofNat_of_zero_le (show 0 ≤ need by omega)
      by_cases hfew : ll.length < m + 2
      · have HF := hide (wsR_no (ll := ll) (need := m) fun h => by have := h.2.2.2.1; omega)
        have hfi : decide ((ll.length : Int) < (m : Int) + 2) = true := decide_eq_true (by omega)
        clear hv hfew
        go_enter Try.func22, Try.ntmps22
        go_wp2_with fail; refine (Ret.eqB (implVS _ _ _ ll _ H.out rfl hl) hvb).mono ?_; rintro e w1 ⟨rfl, E1⟩
        go_wp2_with fail; refine (Same.eqB (implInr _ _ _ _) h8).mono ?_; rintro e w' ⟨rfl, rfl⟩
        go_wp2
        go_ret
        exact Ret.int HF.out.symm E1
      · have hfi : decide ((ll.length : Int) < (m : Int) + 2) = false := decide_eq_false (by omega)
        have HVS := hide hv
        by_cases hf : fit ll m
        · have HF := hide (wsR_no (ll := ll) (need := m) fun h => h.2.2.2.2 (by rw [Int.toNat_natCast]; exact hf))
          have HFT := hide (show ftR ll (m : Int) = true from by rw [ftR_ok hv (by omega) (by omega)]; exact ftB_yes hf)
          clear hv hf hfew
          go_enter Try.func22, Try.ntmps22
          go_wp2_with fail; refine (Ret.eqB (implVS _ _ _ ll _ H.out rfl hl) hvb).mono ?_; rintro e w1 ⟨rfl, E1⟩
          go_wp2_with fail; refine (Same.eqB (implInr _ _ _ _) h8).mono ?_; rintro e w' ⟨rfl, rfl⟩
          go_wp2_with fail; refine (Ret.eqB (implFT sa cap _ ll m _ (H.out.ext E1) rfl hl hcap) HFT.out).mono ?_; rintro e w2 ⟨rfl, E2⟩
          clear h82
          go_wp2
          go_ret
          exact Ret.int HF.out.symm (E1.trans E2)
        · have HFT := hide (show ftR ll (m : Int) = false from by rw [ftR_ok hv (by omega) (by omega)]; exact ftB_no hf)
          have HWA := hide (fun i hi hd => @wsR_at ll m i hv (by omega) (by omega) (by omega) hf hi hd)
          have HWN := hide (@wsR_none ll m)
          have HDS := hide (fun i => hv.sub (drp_sub ll i))
          have HDL := hide (fun i (hi : i < ll.length) => drp_len (ll := ll) hi)
          have hm1 : 1 ≤ m := by omega
          have hm8 : m ≤ 8 := by omega
          clear hv hf hfew
          go_enter Try.func22, Try.ntmps22
          go_wp2_with fail; refine (Ret.eqB (implVS _ _ _ ll _ H.out rfl hl) hvb).mono ?_; rintro e w1 ⟨rfl, E1⟩
          go_wp2_with fail; refine (Same.eqB (implInr _ _ _ _) h8).mono ?_; rintro e w' ⟨rfl, rfl⟩
          go_wp2_with fail; refine (Ret.eqB (implFT sa cap _ ll m _ (H.out.ext E1) rfl hl hcap) HFT.out).mono ?_; rintro e w2 ⟨rfl, E2⟩
          have E12 := E1.trans E2
          clear h82 h8 E1 E2 hvb
          go_wp2
          go_loopw [28] (fun i wr => ∃ k : Nat, k ≤ ll.length ∧ i = .int .i64 k ∧ Hid (∀ j, j < k → ¬ fit (drp ll j) m) ∧ Ext w wr) (fun i _ => ll.length - (intOf i).toNat)
          case atStart => exact ⟨0, Nat.zero_le _, rfl, (show ∀ j, j < 0 → _ from fun j hj => absurd hj (Nat.not_lt_zero _)), E12⟩
          case round =>
            obtain ⟨k, hk, rfl, HK, hE⟩ := hrel
            by_cases hlt : k < ll.length
            · have hki : (k : Int) < (ll.length : Int) := by omega
              go_wp2_with fail; refine (implDrop sa cap _ k ll _ (H.out.ext hE) rfl (by omega) hlt).mono ?_; rintro e w3 ⟨s3, c3, rfl, R3, E3⟩
              have hE3 := hE.trans E3
              have hcp := R3.cap
              have HR3 := hide R3.sst
              have hdl : (drp ll k).length ≤ 12 := by rw [HDL.out k hlt]; omega
              have HSV := hide (HDS.out k)
              have HNS := hide (fun h => nfit_succ (k := k) HK.out h)
              have HWK := hide (HWA.out k hlt)
              obtain ⟨D, hD⟩ : ∃ D, D = drp ll k := ⟨_, rfl⟩; rw [← hD] at HR3 hdl HSV HNS HWK hcp ⊢
              clear hD R3
              by_cases hfd : fit D m
              · have HFD := hide (show ftR D (m : Int) = true from by rw [ftR_ok HSV.out hm1 hm8]; exact ftB_yes hfd)
                have HF := hide (HWK.out hfd)
                clear hfd
                go_wp2_with fail; refine (Ret.eqB (implFT s3 c3 _ D m _ HR3.out rfl (by omega) hcp) HFD.out).mono ?_; rintro e w4 ⟨rfl, E4⟩
                go_wp2
                go_ret
                exact Ret.int HF.out.symm (hE3.trans E4)
              · have HFD := hide (show ftR D (m : Int) = false from by rw [ftR_ok HSV.out hm1 hm8]; exact ftB_no hfd)
                have HN2 := hide (HNS.out hfd)
                clear hfd
                go_wp2_with fail; refine (Ret.eqB (implFT s3 c3 _ D m _ HR3.out rfl (by omega) hcp) HFD.out).mono ?_; rintro e w4 ⟨rfl, E4⟩
                go_wp2
                go_roundw
                case rel => exact ⟨k + 1, by omega, by go_num, HN2, hE3.trans E4⟩
                case measure => (first | (simp [intOf]; done) | (simp [intOf]; omega))
            · have hki : decide ((k : Int) < (ll.length : Int)) = false := decide_eq_false (by omega)
              have HF := hide (HWN.out fun i hi => HK.out i (by omega))
              go_wp2
              go_ret
              exact Ret.int HF.out.symm hE
    · have HF := hide (wsR_no (ll := ll) (need := need) fun h => h8 (inr_iff.2 ⟨h.2.1, h.2.2.1⟩))
      rw [Bool.not_eq_true] at h8
      clear hv
      go_enter Try.func22, Try.ntmps22
      go_wp2_with fail; refine (Ret.eqB (implVS _ _ _ ll _ H.out rfl hl) hvb).mono ?_; rintro e w1 ⟨rfl, E1⟩
      go_wp2_with fail; refine (Same.eqB (implInr _ _ _ _) h8).mono ?_; rintro e w' ⟨rfl, rfl⟩
      go_wp2
      go_ret
      exact Ret.int HF.out.symm E1
  · have HF := hide (wsR_no (ll := ll) (need := need) fun h => hv h.1)
    have hvb := svB_no hv
    clear hv
    go_enter Try.func22, Try.ntmps22
    go_wp2_with fail; refine (Ret.eqB (implVS _ _ _ ll _ H.out rfl hl) hvb).mono ?_; rintro e w1 ⟨rfl, E1⟩
    go_wp2
    go_ret
    exact Ret.int HF.out.symm E1
set_option maxHeartbeats 1600000 in
theorem specWS (sa : Option Addr) (cap n : Nat) (ll : List Sh) (need : Int) (w : World) (h : Sst w sa ll) (hn : ll.length = n) (hl : n ≤ 2000000) (hcap : n ≤ cap) :
    Calls Try.prog 20 #[.slice sa n cap, .int .i64 need] w (Ret (.int .i64 (wsR ll need)) w) := by
  subst hn
  have H := hide h; clear h
  by_cases hv : svOk ll
  · have hvb := svB_yes hv
    have h12 := hv.len
    by_cases h8 : inr need 1 8 = true
    · have h82 := inr_iff.1 h8
      obtain ⟨m, rfl⟩ := Int.eq_ofNat_of_zero_le (show 0 ≤ need by omega)
      by_cases hfew : ll.length < m + 2
      · have HF := hide (wsR_no (ll := ll) (need := m) fun h => by have := h.2.2.2.1; omega)
        have hfi : decide ((ll.length : Int) < (m : Int) + 2) = true := decide_eq_true (by omega)
        clear hv hfew
        go_enter Try.func20, Try.ntmps20
        go_wp2_with fail; refine (Ret.eqB (specvS _ _ _ ll _ H.out rfl hl) hvb).mono ?_; rintro e w1 ⟨rfl, E1⟩
        go_wp2_with fail; refine (Same.eqB (specInr _ _ _ _) h8).mono ?_; rintro e w' ⟨rfl, rfl⟩
        go_wp2
        go_ret
        exact Ret.int HF.out.symm E1
      · have hfi : decide ((ll.length : Int) < (m : Int) + 2) = false := decide_eq_false (by omega)
        have HVS := hide hv
        by_cases hf : fit ll m
        · have HF := hide (wsR_no (ll := ll) (need := m) fun h => h.2.2.2.2 (by rw [Int.toNat_natCast]; exact hf))
          have HFT := hide (show ftB ll m = true from ftB_yes hf)
          clear hv hf hfew
          go_enter Try.func20, Try.ntmps20
          go_wp2_with fail; refine (Ret.eqB (specvS _ _ _ ll _ H.out rfl hl) hvb).mono ?_; rintro e w1 ⟨rfl, E1⟩
          go_wp2_with fail; refine (Same.eqB (specInr _ _ _ _) h8).mono ?_; rintro e w' ⟨rfl, rfl⟩
          go_wp2_with fail; refine (Ret.eqB (specFits sa cap _ m ll _ (H.out.ext E1) rfl (by omega) hcap HVS.out.gd (by omega)) HFT.out).mono ?_; rintro e w2 ⟨rfl, E2⟩
          clear h82
          go_wp2
          go_ret
          exact Ret.int HF.out.symm (E1.trans E2)
        · have HFT := hide (show ftB ll m = false from ftB_no hf)
          have HWA := hide (fun i hi hd => @wsR_at ll m i hv (by omega) (by omega) (by omega) hf hi hd)
          have HWN := hide (@wsR_none ll m)
          have HDS := hide (fun i => hv.sub (drp_sub ll i))
          have HDL := hide (fun i (hi : i < ll.length) => drp_len (ll := ll) hi)
          have hm1 : 1 ≤ m := by omega
          have hm8 : m ≤ 8 := by omega
          clear hv hf hfew
          go_enter Try.func20, Try.ntmps20
          go_wp2_with fail; refine (Ret.eqB (specvS _ _ _ ll _ H.out rfl hl) hvb).mono ?_; rintro e w1 ⟨rfl, E1⟩
          go_wp2_with fail; refine (Same.eqB (specInr _ _ _ _) h8).mono ?_; rintro e w' ⟨rfl, rfl⟩
          go_wp2_with fail; refine (Ret.eqB (specFits sa cap _ m ll _ (H.out.ext E1) rfl (by omega) hcap HVS.out.gd (by omega)) HFT.out).mono ?_; rintro e w2 ⟨rfl, E2⟩
          have E12 := E1.trans E2
          clear h82 h8 E1 E2 hvb
          go_wp2
          go_loopw [5] (fun i wr => ∃ k : Nat, k ≤ ll.length ∧ i = .int .i64 k ∧ Hid (∀ j, j < k → ¬ fit (drp ll j) m) ∧ Ext w wr) (fun i _ => ll.length - (intOf i).toNat)
          case atStart => exact ⟨0, Nat.zero_le _, rfl, (show ∀ j, j < 0 → _ from fun j hj => absurd hj (Nat.not_lt_zero _)), E12⟩
          case round =>
            obtain ⟨k, hk, rfl, HK, hE⟩ := hrel
            by_cases hlt : k < ll.length
            · have hki : (k : Int) < (ll.length : Int) := by omega
              go_wp2_with fail; refine (specDrop sa cap _ k ll _ (H.out.ext hE) rfl (by omega) hcap hlt).mono ?_; rintro e w3 ⟨s3, c3, rfl, R3, E3⟩
              have hE3 := hE.trans E3
              have hcp := R3.cap
              have HR3 := hide R3.sst
              have hdl : (drp ll k).length ≤ 12 := by rw [HDL.out k hlt]; omega
              have HSV := hide (HDS.out k)
              have HNS := hide (fun h => nfit_succ (k := k) HK.out h)
              have HWK := hide (HWA.out k hlt)
              obtain ⟨D, hD⟩ : ∃ D, D = drp ll k := ⟨_, rfl⟩; rw [← hD] at HR3 hdl HSV HNS HWK hcp ⊢
              clear hD R3
              by_cases hfd : fit D m
              · have HFD := hide (show ftB D m = true from ftB_yes hfd)
                have HF := hide (HWK.out hfd)
                clear hfd
                go_wp2_with fail; refine (Ret.eqB (specFits s3 c3 _ m D _ HR3.out rfl (by omega) hcp HSV.out.gd hm8) HFD.out).mono ?_; rintro e w4 ⟨rfl, E4⟩
                go_wp2
                go_ret
                exact Ret.int HF.out.symm (hE3.trans E4)
              · have HFD := hide (show ftB D m = false from ftB_no hfd)
                have HN2 := hide (HNS.out hfd)
                clear hfd
                go_wp2_with fail; refine (Ret.eqB (specFits s3 c3 _ m D _ HR3.out rfl (by omega) hcp HSV.out.gd hm8) HFD.out).mono ?_; rintro e w4 ⟨rfl, E4⟩
                go_wp2
                go_roundw
                case rel => exact ⟨k + 1, by omega, by go_num, HN2, hE3.trans E4⟩
                case measure => (first | (simp [intOf]; done) | (simp [intOf]; omega))
            · have hki : decide ((k : Int) < (ll.length : Int)) = false := decide_eq_false (by omega)
              have HF := hide (HWN.out fun i hi => HK.out i (by omega))
              go_wp2
              go_ret
              exact Ret.int HF.out.symm hE
    · have HF := hide (wsR_no (ll := ll) (need := need) fun h => h8 (inr_iff.2 ⟨h.2.1, h.2.2.1⟩))
      rw [Bool.not_eq_true] at h8
      clear hv
      go_enter Try.func20, Try.ntmps20
      go_wp2_with fail; refine (Ret.eqB (specvS _ _ _ ll _ H.out rfl hl) hvb).mono ?_; rintro e w1 ⟨rfl, E1⟩
      go_wp2_with fail; refine (Same.eqB (specInr _ _ _ _) h8).mono ?_; rintro e w' ⟨rfl, rfl⟩
      go_wp2
      go_ret
      exact Ret.int HF.out.symm E1
  · have HF := hide (wsR_no (ll := ll) (need := need) fun h => hv h.1)
    have hvb := svB_no hv
    clear hv
    go_enter Try.func20, Try.ntmps20
    go_wp2_with fail; refine (Ret.eqB (specvS _ _ _ ll _ H.out rfl hl) hvb).mono ?_; rintro e w1 ⟨rfl, E1⟩
    go_wp2
    go_ret
    exact Ret.int HF.out.symm E1
end Go.Proofs.Ytgmhodmgbhpdaab
