/- The generator's lists of choices that may be invalid: contracts over the reader. -/
import Derived.Test.YtgmhodmgbhpdaacDrawR
import Derived.Deep.RegionHeld3
namespace Go.Proofs.Ytgmhodmgbhpdaac
open Go.ChangeShapes Go.WideShapes Go.ChangeAt Go.RowKit Go.Joins
set_option linter.unusedVariables false

theorem set_getL (l : List (List Int)) (j i : Nat) (x : List Int) (hj : j < l.length) : (l.set j x).getD i [] = if i = j then x else l.getD i [] := by
  rw [List.getD_eq_getElem?_getD, List.getD_eq_getElem?_getD, List.getElem?_set]
  by_cases e : j = i
  · subst e; simp [hj]
  · rw [if_neg e, if_neg (Ne.symm e)]
theorem Row.putO {base : Nat} {w : World} {sa : Option Addr} {cap : Nat} {l : List Int} (h : Row base w sa cap l) {b : Nat} (hn : ∀ a, sa = some a → a.block ≠ b) (j : Nat) (v : Value) : Row base (w.setCell ⟨b, j, none⟩ v) sa cap l := by
  obtain ⟨h1, h2⟩ := h
  refine ⟨h1, ?_⟩
  rcases h2 with h2 | ⟨x, c, cur, h2, h3, h4, h5⟩
  · exact .inl h2
  · have e : sa = some ⟨x, 0, none⟩ := by simp only [Value.slice.injEq] at h2; exact h2.1
    exact .inr ⟨x, c, cur, h2, h3, (Below.heap_setCell w ⟨b, j, none⟩ v x (hn _ e)).trans h4, h5⟩
/-- a store into one of the lists -/
theorem Mat.store {base : Nat} {w : World} {sa : Option Addr} {cap : Nat} {ll : List (List Int)} {hs : Heads} (M : Mat base w sa cap ll hs) {r b : Nat} (hr : r < ll.length) (hb : (hs.getD r (none, 0)).1 = some ⟨b, 0, none⟩) (i : Nat) (y : Int) :
    Mat base (w.setCell ⟨b, i, none⟩ (.int .i64 y)) sa cap (ll.set r ((ll.getD r []).set i y)) hs := by
  have hlen := M.len
  have L : ∀ j, (ll.set r ((ll.getD r []).set i y)).getD j [] = if j = r then (ll.getD r []).set i y else ll.getD j [] := fun j => set_getL _ _ _ _ hr
  have hcs : cellsM hs (ll.set r ((ll.getD r []).set i y)) = cellsM hs ll := by
    apply List.ext_getElem?
    intro j
    by_cases hj : j < ll.length
    · rw [cellsM_at (by rw [List.length_set]; exact hlen) (by rw [List.length_set]; exact hj), cellsM_at hlen hj, L]
      by_cases e : j = r
      · subst e; rw [if_pos rfl]; unfold hcell; rw [List.length_set]
      · rw [if_neg e]
    · rw [List.getElem?_eq_none (by rw [cellsM_len (by rw [List.length_set]; exact hlen), List.length_set]; omega), List.getElem?_eq_none (by rw [cellsM_len hlen]; omega)]
  refine ⟨by rw [List.length_set]; exact hlen, ?_, fun j hj => ?_, fun j k a c hj hk => M.sep j k a c (by rwa [List.length_set] at hj) (by rwa [List.length_set] at hk), fun j a c hj => M.out j a c (by rwa [List.length_set] at hj)⟩
  · rw [hcs, List.length_set]
    obtain ⟨h1, h2⟩ := M.own
    refine ⟨h1, ?_⟩
    rcases h2 with h2 | ⟨x, c, cur, h2, h3, h4, h5⟩
    · exact .inl h2
    · have e : sa = some ⟨x, 0, none⟩ := by simp only [Value.slice.injEq] at h2; exact h2.1
      have hne := M.out r _ _ hr hb e
      exact .inr ⟨x, c, cur, h2, h3, (Below.heap_setCell w ⟨b, i, none⟩ _ x (fun e2 => hne e2.symm)).trans h4, h5⟩
  · rw [List.length_set] at hj
    rw [L]
    by_cases e : j = r
    · subst e
      rw [if_pos rfl]
      have := M.row j hj
      rw [hb] at this ⊢
      exact this.store i y
    · rw [if_neg e]
      exact (M.row j hj).putO (fun a ha => M.sep j r a _ hj hr e ha hb) i _

theorem len_snocR' (o : List (List Int)) (x : List Int) : (o ++ [x]).length = o.length + 1 := by simp

set_option maxRecDepth 100000 in
set_option maxHeartbeats 1000000 in
theorem anyRanks_any (B g p : Nat) (w : World) (hr : Rdr B w g p) (hp : p < 9000) :
    Calls Try.prog 86 #[.pointer (some ⟨g, 0, none⟩)] w (MatOut B g p 90 8 w) := by
  have hgB := hr.lt
  have hlow := hr.low
  go_enter Try.func86, Try.ntmps86
  go_wp2_with fail
  refine (someRanks_any B g p _ hr (by omega)).mono ?_
  rintro e w1 ⟨sa, cap, ll, hs, M, rfl, hM1, l1, l2, m0, m1, hrl, hm0, ⟨q, hq, hr1⟩, hB1⟩
  have HRL := hide hrl
  have HM0 := hide hm0
  clear hrl hm0
  go_wp2_with fail
  refine (pick_pos B g q 20 _ hr1 (by omega) (by omega)).mono ?_
  rintro e w2 ⟨v, rfl, v0, v1, hr2, hb2, hs2⟩
  have hM2 := hM1.but hb2 hgB
  have hB2 := hB1.trans hb2
  clear hs2 hb2 hM1 hB1 hr1
  by_cases h0 : v = 0
  · subst h0
    obtain ⟨gL, cur, rfl, hgL, hcur, hat⟩ : ∃ gL cur, sa = some ⟨gL, 0, none⟩ ∧ w.heap.size ≤ gL ∧ w2.heap[gL]? = some (.cells cur 22 (0, 0)) ∧ ∀ i, i < ll.length → cur[i]? = some (hcell (hs.getD i (none, 0)) (ll.getD i [])) := by
      rcases hM2.form with ⟨_, h⟩ | h
      · rw [h] at l1; simp at l1
      · exact h
    have hgL2 : gL < w2.heap.size := size_of_heap hcur
    have hR0 := hM2.row 0 (by omega)
    have hx0 : 0 < (ll.getD 0 []).length := by have := HM0.out; omega
    have hx6 : (ll.getD 0 []).length ≤ 6 := by have := HRL.out 0 (by omega); omega
    obtain ⟨b0, hb0, b1, b2, b3, b4⟩ := hR0.spot hx0
    obtain ⟨ci, hci⟩ : ∃ ci, ci = (hs.getD 0 (none, 0)).2 := ⟨_, rfl⟩
    have HH := hide (show hs.getD 0 (none, 0) = (some ⟨b0, 0, none⟩, ci) by rw [hci, ← hb0])
    have hbl := hM2.out 0 _ _ (by omega) hb0 rfl
    have hbg : b0 ≠ gL := hbl
    have hc2 : w2.cell? ⟨gL, 0, none⟩ = some (.slice (some ⟨b0, 0, none⟩) (ll.getD 0 []).length ci) := by
      rw [cell_of_block hcur]
      have := hat 0 (by omega)
      rw [HH.out] at this
      exact this
    have hz := b4 ((ll.getD 0 []).length - 1) (by omega)
    obtain ⟨x, hx⟩ : ∃ x, x = ll.getD 0 [] := ⟨_, rfl⟩
    have HXX := hide hx.symm
    rw [← hx] at hc2 hz hx0 hx6
    obtain ⟨z, hzz⟩ : ∃ z, z = x.getD (x.length - 1) 0 := ⟨_, rfl⟩
    rw [← hzz] at hz
    have hcell2 : w2.drew.cell? ⟨gL, 0, none⟩ = some (.slice (some ⟨b0, 0, none⟩) x.length ci) := hc2
    have hzd : w2.drew.cell? ⟨b0, x.length - 1, none⟩ = some (.int .i64 z) := hz
    have hcell3 : (w2.drew.alloc (.cells #[.int .i64 (-1), .int .i64 6, .int .i64 z] 3)).cell? ⟨gL, 0, none⟩ = some (.slice (some ⟨b0, 0, none⟩) x.length ci) := (((Ext.refl w2.drew).alloc _).cell (o := 0) hgL2).trans hcell2
    have hw1 : IntKind.i64.wrap ((x.length : Int) - 1) = (x.length : Int) - 1 := IntWalk.i64_in _ (by omega)
    have ht1 : ((x.length : Int) - 1).toNat = x.length - 1 := by omega
    have i1 : (0 : Int) ≤ (x.length : Int) - 1 := by omega
    have i2 : (x.length : Int) - 1 < (x.length : Int) := by omega
    have i3 : x.length - 1 < x.length := by omega
    have i4 : (1 : Int) ≤ (x.length : Int) := by omega
    have hll : 0 < ll.length := by omega
    have HMx := hide (show M ≤ x.length by rw [hx]; exact HM0.out)
    clear hx hzz hci hat hcur b3 b4 hb0 hR0 hbl
    go_wp2
    refine wp_region_held_drew (S := (fun w' => w'.cell? ⟨gL, 0, none⟩ = some (.slice (some ⟨b0, 0, none⟩) x.length ci))) (by kernel_rfl) (by first | exact hcell2) (fun hHeld => ?_)
    refine wpAnyH_take (i := 0) (oi := _) (v := ?_) rfl (by kernel_rfl) (by kernel_rfl) (by kernel_rfl) (fun _ _ _ h => h) (Or.inl ⟨by rfl, ?_⟩) (by assumption) ?_
    rotate_left
    · (intro w hSw; (try dsimp only at hSw); go_simp; (try with_reducible rfl))
    (try simp only [List.getElem_toArray, List.getElem_cons_zero, Act.put, List.setIfInBounds_toArray, List.set_cons_zero, List.set_cons_succ])
    refine wpAnyH_take (i := 1) (oi := _) (v := ?_) rfl (by kernel_rfl) (by kernel_rfl) (by kernel_rfl) (fun _ _ _ h => h) (Or.inl ⟨by rfl, ?_⟩) (by assumption) ?_
    rotate_left
    · (intro w hSw; (try dsimp only at hSw); go_simp; (try with_reducible rfl))
    (try simp only [List.getElem_toArray, List.getElem_cons_succ, List.getElem_cons_zero, Act.put, List.setIfInBounds_toArray, List.set_cons_zero, List.set_cons_succ])
    refine wpAnyH_take (i := 2) (oi := _) (v := ?_) rfl (by kernel_rfl) (by kernel_rfl) (by kernel_rfl) (fun _ _ _ h => h) (Or.inl ⟨by rfl, ?_⟩) (by assumption) ?_
    rotate_left
    · (intro w hSw; (try dsimp only at hSw); go_simp; (try with_reducible rfl))
    (try simp only [List.getElem_toArray, List.getElem_cons_succ, List.getElem_cons_zero, Act.put, List.setIfInBounds_toArray, List.set_cons_zero, List.set_cons_succ])
    refine wpAnyH_take (i := 3) (oi := _) (v := ?_) rfl (by kernel_rfl) (by kernel_rfl) (by kernel_rfl) (fun _ _ _ h => h) (Or.inl ⟨by rfl, ?_⟩) (by assumption) ?_
    rotate_left
    · (intro w hSw; (try dsimp only at hSw); go_simp; (try with_reducible rfl))
    (try simp only [List.getElem_toArray, List.getElem_cons_succ, List.getElem_cons_zero, Act.put, List.setIfInBounds_toArray, List.set_cons_zero, List.set_cons_succ])
    refine wpAnyH_take (i := 4) (oi := _) (v := ?_) rfl (by kernel_rfl) (by kernel_rfl) (by kernel_rfl) (fun _ _ _ h => h) (Or.inl ⟨by rfl, ?_⟩) (by assumption) ?_
    rotate_left
    · (intro w hSw; (try dsimp only at hSw); go_simp; (try with_reducible rfl))
    (try simp only [List.getElem_toArray, List.getElem_cons_succ, List.getElem_cons_zero, Act.put, List.setIfInBounds_toArray, List.set_cons_zero, List.set_cons_succ])
    refine wpAnyH_take (i := 5) (oi := _) (v := ?_) rfl (by kernel_rfl) (by kernel_rfl) (by kernel_rfl) (fun _ _ _ h => h) (Or.inl ⟨by rfl, ?_⟩) (by assumption) ?_
    rotate_left
    · (intro w hSw; (try dsimp only at hSw); go_simp; (try with_reducible rfl))
    (try simp only [List.getElem_toArray, List.getElem_cons_succ, List.getElem_cons_zero, Act.put, List.setIfInBounds_toArray, List.set_cons_zero, List.set_cons_succ])
    refine wpAnyH_take (i := 6) (oi := _) (v := ?_) rfl (by kernel_rfl) (by kernel_rfl) (by kernel_rfl) (fun _ _ _ h => h) (Or.inl ⟨by rfl, ?_⟩) (by assumption) ?_
    rotate_left
    · (intro w hSw; (try dsimp only at hSw); go_simp; (try with_reducible rfl))
    (try simp only [List.getElem_toArray, List.getElem_cons_succ, List.getElem_cons_zero, Act.put, List.setIfInBounds_toArray, List.set_cons_zero, List.set_cons_succ])
    refine wpAnyH_take (i := 7) (oi := _) (v := ?_) rfl (by kernel_rfl) (by kernel_rfl) (by kernel_rfl) (fun _ _ _ h => h) (Or.inl ⟨by rfl, ?_⟩) (by assumption) ?_
    rotate_left
    · (intro w hSw; (try dsimp only at hSw); go_simp; (try with_reducible rfl))
    (try simp only [List.getElem_toArray, List.getElem_cons_succ, List.getElem_cons_zero, Act.put, List.setIfInBounds_toArray, List.set_cons_zero, List.set_cons_succ])
    refine wpAnyH_take (i := 8) (oi := _) (v := ?_) rfl (by kernel_rfl) (by kernel_rfl) (by kernel_rfl) (fun _ _ _ h => h) (Or.inl ⟨by rfl, ?_⟩) (by assumption) ?_
    rotate_left
    · (intro w hSw; (try dsimp only at hSw); go_simp; (try with_reducible rfl))
    (try simp only [List.getElem_toArray, List.getElem_cons_succ, List.getElem_cons_zero, Act.put, List.setIfInBounds_toArray, List.set_cons_zero, List.set_cons_succ])
    refine wpAnyH_take (i := 9) (oi := _) (v := ?_) rfl (by kernel_rfl) (by kernel_rfl) (by kernel_rfl) (fun _ _ _ h => h) (Or.inl ⟨by rfl, ?_⟩) (by assumption) ?_
    rotate_left
    · (intro w hSw; (try dsimp only at hSw); go_simp; (try with_reducible rfl))
    (try simp only [List.getElem_toArray, List.getElem_cons_succ, List.getElem_cons_zero, Act.put, List.setIfInBounds_toArray, List.set_cons_zero, List.set_cons_succ])
    refine wpAnyH_take (i := 10) (oi := _) (v := ?_) rfl (by kernel_rfl) (by kernel_rfl) (by kernel_rfl) (fun _ _ _ h => h) (Or.inl ⟨by rfl, ?_⟩) (by assumption) ?_
    rotate_left
    · (intro w hSw; (try dsimp only at hSw); go_simp; (try with_reducible rfl))
    (try simp only [List.getElem_toArray, List.getElem_cons_succ, List.getElem_cons_zero, Act.put, List.setIfInBounds_toArray, List.set_cons_zero, List.set_cons_succ])
    refine wpAnyH_take (i := 11) (oi := _) (v := ?_) rfl (by kernel_rfl) (by kernel_rfl) (by kernel_rfl) (fun _ _ _ h => h) (Or.inl ⟨by rfl, ?_⟩) (by assumption) ?_
    rotate_left
    · (intro w hSw; (try dsimp only at hSw); go_simp; (try with_reducible rfl))
    (try simp only [List.getElem_toArray, List.getElem_cons_succ, List.getElem_cons_zero, Act.put, List.setIfInBounds_toArray, List.set_cons_zero, List.set_cons_succ])
    refine wpAnyH_take (i := 12) (oi := _) (v := ?_) rfl (by kernel_rfl) (by kernel_rfl) (by kernel_rfl) (fun _ _ _ h => h) (Or.inl ⟨by rfl, ?_⟩) (by assumption) ?_
    rotate_left
    · (intro w hSw; (try dsimp only at hSw); go_simp; (try with_reducible rfl))
    (try simp only [List.getElem_toArray, List.getElem_cons_succ, List.getElem_cons_zero, Act.put, List.setIfInBounds_toArray, List.set_cons_zero, List.set_cons_succ])
    refine wpAnyH_ready (rs := [13]) (by kernel_rfl) (by simp) ?_
    refine AllReadyH.cons (o := _) rfl (fun K hK => ?_) AllReadyH.nil
    go_simp
    refine hK.out _ _ (hcell2) (fun hHeld => ?_); clear hK K
    (try simp only [List.getElem_toArray, List.getElem_cons_succ, List.getElem_cons_zero, Act.put, List.setIfInBounds_toArray, List.set_cons_zero, List.set_cons_succ])
    refine wpAnyH_ready (rs := [14]) (by kernel_rfl) (by simp) ?_
    refine AllReadyH.cons (o := _) rfl (fun K hK => ?_) AllReadyH.nil
    go_simp
    refine hK.out _ _ (hcell3) (fun hHeld => ?_); clear hK K
    (try simp only [List.getElem_toArray, List.getElem_cons_succ, List.getElem_cons_zero, Act.put, List.setIfInBounds_toArray, List.set_cons_zero, List.set_cons_succ])
    refine wpAnyH_ready (rs := [15]) (by kernel_rfl) (by simp) ?_
    refine AllReadyH.cons (o := _) rfl (fun K hK => ?_) AllReadyH.nil
    go_simp
    refine (one_at B g (q + 1) [-1, 6, z] (min (-1) z) (max 6 z) _ _ _ _ (by simp) rfl hr2.drew (by omega) (by simp) (by simp) (by simp <;> omega)).mono ?_; rintro e w3 ⟨y, rfl, y0, y1, hr3, hb3, hs3⟩
    refine hK.out _ _ ((hb3.cell gL 0 (by first | omega | (simp <;> omega)) (by omega)).trans hcell3) (fun hHeld => ?_); clear hK K
    (try simp only [List.getElem_toArray, List.getElem_cons_succ, List.getElem_cons_zero, Act.put, List.setIfInBounds_toArray, List.set_cons_zero, List.set_cons_succ])
    clear hs3
    have hM3 := ((hM2.ext (Ext.refl _).drew).ext ((Ext.refl _).alloc (.cells #[.int .i64 (-1), .int .i64 6, .int .i64 z] 3))).but hb3 hgB
    have hB3 := (hB2.drew.alloc (.cells #[.int .i64 (-1), .int .i64 6, .int .i64 z] 3)).trans hb3
    have hR3 := hM3.row 0 (by omega)
    rw [HH.out] at hR3
    obtain ⟨_, e1, e2, e3, e4, e5⟩ := hR3.spot (by rw [HXX.out]; omega)
    cases e1
    have f0 := e4 0
    have v0 := e5 0 (by rw [HXX.out]; omega)
    clear e4 e5
    refine wpAnyH_take (i := 16) (oi := _) (v := ?_) rfl (by kernel_rfl) (by kernel_rfl) (by kernel_rfl) (fun _ _ _ h => h) (Or.inl ⟨by rfl, ?_⟩) (by assumption) ?_
    rotate_left
    · (intro w hSw; (try dsimp only at hSw); go_simp; (try with_reducible rfl))
    (try simp only [List.getElem_toArray, List.getElem_cons_succ, List.getElem_cons_zero, Act.put, List.setIfInBounds_toArray, List.set_cons_zero, List.set_cons_succ])
    refine wpAnyH_ready (rs := [17]) (by kernel_rfl) (by simp) ?_
    refine AllReadyH.cons (o := _) rfl (fun K hK => ?_) AllReadyH.nil
    go_simp
    refine hK.out _ _ ((by first | exact (World.cell?_setCell_other _ _ _ _ (by first | omega | (simp <;> omega))).trans ((hb3.cell gL 0 (by first | omega | (simp <;> omega)) (by omega)).trans hcell3) | (rw [World.cell?_setCell_other _ _ _ _ (by first | omega | (simp <;> omega))]; exact (hb3.cell gL 0 (by first | omega | (simp <;> omega)) (by omega)).trans hcell3))) (fun hHeld => ?_); clear hK K
    (try simp only [List.getElem_toArray, List.getElem_cons_succ, List.getElem_cons_zero, Act.put, List.setIfInBounds_toArray, List.set_cons_zero, List.set_cons_succ])
    refine wpAnyH_done (by kernel_rfl) ?_ _
    clear f0 v0
    go_wp2
    go_ret
    have HS := hM3.store (r := 0) (b := b0) (by omega) (by rw [HH.out]) 0 y
    refine ⟨some ⟨gL, 0, none⟩, cap, ll.set 0 ((ll.getD 0 []).set 0 y), hs, M, by rw [List.length_set]; rfl, HS, by rw [List.length_set]; omega, by rw [List.length_set]; omega, m0, m1, fun i hi => ?_, ?_, ⟨q + 1 + 1, by omega, hr3.put _ _ _ (by omega) (by omega)⟩, hB3.put _ _ _ (by omega)⟩
    · rw [List.length_set] at hi
      rw [set_getL _ _ _ _ (by omega)]
      split
      · rw [List.length_set]; exact HRL.out 0 (by omega)
      · exact HRL.out i hi
    · rw [set_getL _ _ _ _ (by omega), if_pos rfl, List.length_set]; exact HM0.out
  have t0 : (v == 0) = false := by rw [beq_eq_false_iff_ne]; exact h0
  by_cases h1 : v = 1
  · subst h1
    have hMlt := hM2.lt
    have hMa := hM2.ext ((Ext.refl w2).alloc (.cells #[] 3))
    have hRa : Row w2.heap.size (w2.alloc (.cells #[] 3)) (some ⟨w2.heap.size, 0, none⟩) 0 [] := Row.made _ w2 (Nat.le_refl _)
    go_wp2_with (first | (at_builtin; refine append_rowB (s := .tmp 29) (x := .tmp 31) (w1 := w2.alloc (.cells #[] 3)) (l := []) rfl rfl rfl (by simp; rfl) rfl hMa hMlt hRa (by omega) hB2.size (by simp) ?_; intro g4 c4 w4 M4 hb4))
    have hr4 := (hr2.alloc (.cells #[] 3)).below hb4 hgB
    have hB4 := (hB2.alloc (.cells #[] 3)).below hb4 (Nat.le_refl _)
    go_wp2
    go_ret
    refine ⟨some ⟨g4, 0, none⟩, c4, ll ++ [[]], _, M, by rw [len_snocR' ll []]; rfl, M4, by simp, by rw [List.length_append]; simp; omega, m0, m1, fun i hi => ?_, ?_, ⟨q + 1, by omega, hr4⟩, hB4⟩
    · rw [List.length_append, List.length_singleton] at hi
      by_cases e : i = ll.length
      · rw [e, getD_snoc_eq]; simp
      · rw [getD_snoc_lt _ _ _ (by omega)]; exact HRL.out i (by omega)
    · rw [getD_snoc_lt _ _ _ (by omega)]; exact HM0.out
  · have t1 : (v == 1) = false := by rw [beq_eq_false_iff_ne]; exact h1
    go_wp2
    go_ret
    exact ⟨sa, cap, ll, hs, M, rfl, hM2, l1, by omega, m0, m1, HRL.out, HM0.out, ⟨q + 1, by omega, hr2⟩, hB2⟩
end Go.Proofs.Ytgmhodmgbhpdaac
