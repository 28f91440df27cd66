/- Chapter 2: lists without one number, lists of lists: contracts. -/
import Derived.Test.YtjdfdikifiljjabLawJ
namespace Go.Proofs.Ytjdfdikifiljjab
open Go.ChangeShapes Go.WideShapes Go.ChangeAt Go.RowKit Go.Joins Go.Sort
set_option linter.unusedVariables false

set_option maxHeartbeats 1000000 in
theorem equalLists_same (sa sb : Option Addr) (ca cb : Nat) (ll : List (List Int)) (w : World) (ha : Mst w sa ll) (hb : Mst w sb ll) (hl : ll.length ≤ 2000000) (hin : ∀ i, i < ll.length → (ll.getD i []).length ≤ 2000000) :
    Calls Try.prog 38 #[.slice sa ll.length ca, .slice sb ll.length cb] w (Ret (.bool true) w) := by
  have HA := hide ha; clear ha
  have HB := hide hb; clear hb
  have HI := hide hin; clear hin
  have hne : ((ll.length : Int) != ll.length) = false := by simp
  go_enter Try.func38, Try.ntmps38
  go_wp2
  go_loopw [5] (fun i wr => ∃ k : Nat, k ≤ ll.length ∧ i = .int .i64 k ∧ Ext w wr) (fun i _ => ll.length - (intOf i).toNat)
  case atStart => exact ⟨0, Nat.zero_le _, rfl, Ext.refl _⟩
  case round =>
    obtain ⟨k, hk, rfl, hE⟩ := hrel
    by_cases hlt : k < ll.length
    · obtain ⟨g, off, si, ci, rfl, hg, c1, L1, _⟩ := (HA.out.ext hE).at hlt
      obtain ⟨g2, off2, sj, cj, rfl, hg2, c2, L2, _⟩ := (HB.out.ext hE).at hlt
      have hli := HI.out k hlt
      obtain ⟨x, hx⟩ : ∃ x, x = ll.getD k [] := ⟨_, rfl⟩; rw [← hx] at c1 c2 L1 L2 hli
      clear hx
      have k1 := cell_regrown c1
      have k2 := cell_regrown c2
      have H1 := hide L1; clear L1
      have H2 := hide L2; clear L2
      go_wp2
      refine wp_region_quiet_below (by kernel_rfl) (by kernel_rfl) ?_
      repeat (go_big_quiet_step ((first | (go_at_call 47; exact Ret.quiet (eqInts_same si sj ci cj x.length x _ (H1.out.ext (below_regrown _ _ _)) (H2.out.ext (below_regrown _ _ _)) rfl hli)))))
      refine wpQuiet_nil ?_; intro w2 hq; have E2 := Ext.class hq; clear hq
      clear k1 k2 c1 c2
      go_wp2
      go_roundw
      case rel => exact ⟨k + 1, by omega, by go_num, hE.trans E2⟩
      case measure => simp [intOf]; omega
    · go_wp2
      go_ret
      exact Ret.bool rfl hE

set_option maxRecDepth 100000 in
set_option maxHeartbeats 400000 in
theorem without_any (sa : Option Addr) (ca n : Nat) (l : List Int) (k : Nat) (w : World) (ha : Lst w sa l) (hn : l.length = n) (la : n ≤ 1000) (hca : n ≤ ca) (hk : k < n) :
    Calls Try.prog 40 #[.slice sa n ca, .int .i64 k] w (RetList (wo l k) w) := by
  obtain ⟨g, off, rfl, hg, _⟩ := ha.at (k := k) (by omega)
  have HK := hide (show ∀ w', Ext w w' → True ∧ True from fun _ _ => ⟨trivial, trivial⟩)
  have hw : IntKind.i64.wrap ((k : Int) + 1) = (k : Int) + 1 := IntWalk.i64_in _ (by omega)
  have ht : ((k : Int) + 1).toNat = k + 1 := by omega
  have z1 : (k : Int) ≤ (ca : Int) := by omega
  have z2 : (k : Int) + 1 ≤ (n : Int) := by omega
  have z3 : k + 1 ≤ n := by omega
  have z4 : (0 : Int) ≤ (k : Int) + 1 := by omega
  have z5 : k ≤ ca := by omega
  have z6 : (k : Int) ≤ (k : Int) + 1 := by omega
  by_cases hc : ca = k + 1
  · subst hc
    obtain rfl : n = k + 1 := by omega
    have hd : l.drop (k + 1) = [] := List.drop_eq_nil_of_le (by omega)
    have HWO := hide (show wo l k = l.take k ++ [] by unfold wo; rw [hd])
    have C := join_any (some ⟨g, off, none⟩) (some ⟨g, off, none⟩) (k + 1) 0 k 0 (l.take k) [] w.drew ((ha.ext (Ext.refl _).drew).take k) (.inl rfl) (by rw [List.length_take]; omega) rfl (by omega) (by omega)
    rw [← HWO.out] at C
    clear ha hd hn
    go_enter Try.func40, Try.ntmps40
    go_wp2
    refine wp_region_held_drew (S := (fun _ => True ∧ True)) (by kernel_rfl) (by first | exact HK.out _ ((Ext.refl w).drew)) (fun hHeld => ?_)
    refine wpAnyH_take (i := 0) (oi := _) (v := ?_) rfl (by kernel_rfl) (by kernel_rfl) (by kernel_rfl) (fun _ _ _ h => h) (Or.inl ⟨by rfl, ?_⟩) (by assumption) ?_
    rotate_left
    · (intro w hSw; (try dsimp only at hSw); (try obtain ⟨hS0, hS1⟩ := hSw); go_simp; (try with_reducible rfl))
    (try simp only [List.getElem_toArray, List.getElem_cons_zero, Act.put, List.setIfInBounds_toArray, List.set_cons_zero, List.set_cons_succ])
    refine wpAnyH_take (i := 1) (oi := _) (v := ?_) rfl (by kernel_rfl) (by kernel_rfl) (by kernel_rfl) (fun _ _ _ h => h) (Or.inl ⟨by rfl, ?_⟩) (by assumption) ?_
    rotate_left
    · (intro w hSw; (try dsimp only at hSw); (try obtain ⟨hS0, hS1⟩ := hSw); go_simp; (try with_reducible rfl))
    (try simp only [List.getElem_toArray, List.getElem_cons_succ, List.getElem_cons_zero, Act.put, List.setIfInBounds_toArray, List.set_cons_zero, List.set_cons_succ])
    refine wpAnyH_take (i := 2) (oi := _) (v := ?_) rfl (by kernel_rfl) (by kernel_rfl) (by kernel_rfl) (fun _ _ _ h => h) (Or.inl ⟨by rfl, ?_⟩) (by assumption) ?_
    rotate_left
    · (intro w hSw; (try dsimp only at hSw); (try obtain ⟨hS0, hS1⟩ := hSw); go_simp; (try with_reducible rfl))
    (try simp only [List.getElem_toArray, List.getElem_cons_succ, List.getElem_cons_zero, Act.put, List.setIfInBounds_toArray, List.set_cons_zero, List.set_cons_succ])
    refine wpAnyH_take (i := 3) (oi := _) (v := ?_) rfl (by kernel_rfl) (by kernel_rfl) (by kernel_rfl) (fun _ _ _ h => h) (Or.inl ⟨by rfl, ?_⟩) (by assumption) ?_
    rotate_left
    · (intro w hSw; (try dsimp only at hSw); (try obtain ⟨hS0, hS1⟩ := hSw); go_simp; (try with_reducible rfl))
    (try simp only [List.getElem_toArray, List.getElem_cons_succ, List.getElem_cons_zero, Act.put, List.setIfInBounds_toArray, List.set_cons_zero, List.set_cons_succ])
    refine wpAnyH_take (i := 4) (oi := _) (v := ?_) rfl (by kernel_rfl) (by kernel_rfl) (by kernel_rfl) (fun _ _ _ h => h) (Or.inl ⟨by rfl, ?_⟩) (by assumption) ?_
    rotate_left
    · (intro w hSw; (try dsimp only at hSw); (try obtain ⟨hS0, hS1⟩ := hSw); go_simp; (try with_reducible rfl))
    (try simp only [List.getElem_toArray, List.getElem_cons_succ, List.getElem_cons_zero, Act.put, List.setIfInBounds_toArray, List.set_cons_zero, List.set_cons_succ])
    refine wpAnyH_take (i := 5) (oi := _) (v := ?_) rfl (by kernel_rfl) (by kernel_rfl) (by kernel_rfl) (fun _ _ _ h => h) (Or.inl ⟨by rfl, ?_⟩) (by assumption) ?_
    rotate_left
    · (intro w hSw; (try dsimp only at hSw); (try obtain ⟨hS0, hS1⟩ := hSw); go_simp; (try with_reducible rfl))
    (try simp only [List.getElem_toArray, List.getElem_cons_succ, List.getElem_cons_zero, Act.put, List.setIfInBounds_toArray, List.set_cons_zero, List.set_cons_succ])
    refine wpAnyH_take (i := 6) (oi := _) (v := ?_) rfl (by kernel_rfl) (by kernel_rfl) (by kernel_rfl) (fun _ _ _ h => h) (Or.inl ⟨by rfl, ?_⟩) (by assumption) ?_
    rotate_left
    · (intro w hSw; (try dsimp only at hSw); (try obtain ⟨hS0, hS1⟩ := hSw); go_simp; (try with_reducible rfl))
    (try simp only [List.getElem_toArray, List.getElem_cons_succ, List.getElem_cons_zero, Act.put, List.setIfInBounds_toArray, List.set_cons_zero, List.set_cons_succ])
    refine wpAnyH_ready (rs := [7]) (by kernel_rfl) (by simp) ?_
    refine AllReadyH.cons (o := _) rfl (fun K hK => ?_) AllReadyH.nil
    go_simp
    refine (C).mono ?_; rintro e w2 ⟨s2, c2, rfl, R2, hb2⟩
    refine hK.out _ _ (HK.out _ (((Ext.refl w).drew).trans (Ext.of hb2))) (fun hHeld => ?_); clear hK K
    (try simp only [List.getElem_toArray, List.getElem_cons_succ, List.getElem_cons_zero, Act.put, List.setIfInBounds_toArray, List.set_cons_zero, List.set_cons_succ])
    clear C
    refine wpAnyH_ready (rs := [8]) (by kernel_rfl) (by simp) ?_
    refine AllReadyH.cons (o := _) rfl (fun K hK => ?_) AllReadyH.nil
    go_simp
    refine hK.out _ _ (HK.out _ (((Ext.refl w).drew).trans (Ext.of hb2))) (fun hHeld => ?_); clear hK K
    (try simp only [List.getElem_toArray, List.getElem_cons_succ, List.getElem_cons_zero, Act.put, List.setIfInBounds_toArray, List.set_cons_zero, List.set_cons_succ])
    refine wpAnyH_done (by kernel_rfl) ?_ _
    have E12 := ((Ext.refl w).drew).trans (Ext.of hb2)
    go_wp2
    go_ret
    exact ⟨s2, c2, rfl, R2, E12⟩
  · have C := join_any (some ⟨g, off, none⟩) (some ⟨g, off + (k + 1), none⟩) ca (ca - (k + 1)) k (n - (k + 1)) (l.take k) (l.drop (k + 1)) w.drew ((ha.ext (Ext.refl _).drew).take k) ((ha.ext (Ext.refl _).drew).drop (k + 1)) (by rw [List.length_take]; omega) (by rw [List.length_drop]; omega) (by omega) (by omega)
    rw [show l.take k ++ l.drop (k + 1) = wo l k from rfl] at C
    clear ha hn
    go_enter Try.func40, Try.ntmps40
    go_wp2
    refine wp_region_held_drew (S := (fun _ => True ∧ True)) (by kernel_rfl) (by first | exact HK.out _ ((Ext.refl w).drew)) (fun hHeld => ?_)
    refine wpAnyH_take (i := 0) (oi := _) (v := ?_) rfl (by kernel_rfl) (by kernel_rfl) (by kernel_rfl) (fun _ _ _ h => h) (Or.inl ⟨by rfl, ?_⟩) (by assumption) ?_
    rotate_left
    · (intro w hSw; (try dsimp only at hSw); (try obtain ⟨hS0, hS1⟩ := hSw); go_simp; (try with_reducible rfl))
    (try simp only [List.getElem_toArray, List.getElem_cons_zero, Act.put, List.setIfInBounds_toArray, List.set_cons_zero, List.set_cons_succ])
    refine wpAnyH_take (i := 1) (oi := _) (v := ?_) rfl (by kernel_rfl) (by kernel_rfl) (by kernel_rfl) (fun _ _ _ h => h) (Or.inl ⟨by rfl, ?_⟩) (by assumption) ?_
    rotate_left
    · (intro w hSw; (try dsimp only at hSw); (try obtain ⟨hS0, hS1⟩ := hSw); go_simp; (try with_reducible rfl))
    (try simp only [List.getElem_toArray, List.getElem_cons_succ, List.getElem_cons_zero, Act.put, List.setIfInBounds_toArray, List.set_cons_zero, List.set_cons_succ])
    refine wpAnyH_take (i := 2) (oi := _) (v := ?_) rfl (by kernel_rfl) (by kernel_rfl) (by kernel_rfl) (fun _ _ _ h => h) (Or.inl ⟨by rfl, ?_⟩) (by assumption) ?_
    rotate_left
    · (intro w hSw; (try dsimp only at hSw); (try obtain ⟨hS0, hS1⟩ := hSw); go_simp; (try with_reducible rfl))
    (try simp only [List.getElem_toArray, List.getElem_cons_succ, List.getElem_cons_zero, Act.put, List.setIfInBounds_toArray, List.set_cons_zero, List.set_cons_succ])
    refine wpAnyH_take (i := 3) (oi := _) (v := ?_) rfl (by kernel_rfl) (by kernel_rfl) (by kernel_rfl) (fun _ _ _ h => h) (Or.inl ⟨by rfl, ?_⟩) (by assumption) ?_
    rotate_left
    · (intro w hSw; (try dsimp only at hSw); (try obtain ⟨hS0, hS1⟩ := hSw); go_simp; (try with_reducible rfl))
    (try simp only [List.getElem_toArray, List.getElem_cons_succ, List.getElem_cons_zero, Act.put, List.setIfInBounds_toArray, List.set_cons_zero, List.set_cons_succ])
    refine wpAnyH_take (i := 4) (oi := _) (v := ?_) rfl (by kernel_rfl) (by kernel_rfl) (by kernel_rfl) (fun _ _ _ h => h) (Or.inl ⟨by rfl, ?_⟩) (by assumption) ?_
    rotate_left
    · (intro w hSw; (try dsimp only at hSw); (try obtain ⟨hS0, hS1⟩ := hSw); go_simp; (try with_reducible rfl))
    (try simp only [List.getElem_toArray, List.getElem_cons_succ, List.getElem_cons_zero, Act.put, List.setIfInBounds_toArray, List.set_cons_zero, List.set_cons_succ])
    refine wpAnyH_take (i := 5) (oi := _) (v := ?_) rfl (by kernel_rfl) (by kernel_rfl) (by kernel_rfl) (fun _ _ _ h => h) (Or.inl ⟨by rfl, ?_⟩) (by assumption) ?_
    rotate_left
    · (intro w hSw; (try dsimp only at hSw); (try obtain ⟨hS0, hS1⟩ := hSw); go_simp; (try with_reducible rfl))
    (try simp only [List.getElem_toArray, List.getElem_cons_succ, List.getElem_cons_zero, Act.put, List.setIfInBounds_toArray, List.set_cons_zero, List.set_cons_succ])
    refine wpAnyH_take (i := 6) (oi := _) (v := ?_) rfl (by kernel_rfl) (by kernel_rfl) (by kernel_rfl) (fun _ _ _ h => h) (Or.inl ⟨by rfl, ?_⟩) (by assumption) ?_
    rotate_left
    · (intro w hSw; (try dsimp only at hSw); (try obtain ⟨hS0, hS1⟩ := hSw); go_simp; (try with_reducible rfl))
    (try simp only [List.getElem_toArray, List.getElem_cons_succ, List.getElem_cons_zero, Act.put, List.setIfInBounds_toArray, List.set_cons_zero, List.set_cons_succ])
    refine wpAnyH_ready (rs := [7]) (by kernel_rfl) (by simp) ?_
    refine AllReadyH.cons (o := _) rfl (fun K hK => ?_) AllReadyH.nil
    go_simp
    refine (C).mono ?_; rintro e w2 ⟨s2, c2, rfl, R2, hb2⟩
    refine hK.out _ _ (HK.out _ (((Ext.refl w).drew).trans (Ext.of hb2))) (fun hHeld => ?_); clear hK K
    (try simp only [List.getElem_toArray, List.getElem_cons_succ, List.getElem_cons_zero, Act.put, List.setIfInBounds_toArray, List.set_cons_zero, List.set_cons_succ])
    clear C
    refine wpAnyH_ready (rs := [8]) (by kernel_rfl) (by simp) ?_
    refine AllReadyH.cons (o := _) rfl (fun K hK => ?_) AllReadyH.nil
    go_simp
    refine hK.out _ _ (HK.out _ (((Ext.refl w).drew).trans (Ext.of hb2))) (fun hHeld => ?_); clear hK K
    (try simp only [List.getElem_toArray, List.getElem_cons_succ, List.getElem_cons_zero, Act.put, List.setIfInBounds_toArray, List.set_cons_zero, List.set_cons_succ])
    refine wpAnyH_done (by kernel_rfl) ?_ _
    have E12 := ((Ext.refl w).drew).trans (Ext.of hb2)
    go_wp2
    go_ret
    exact ⟨s2, c2, rfl, R2, E12⟩
end Go.Proofs.Ytjdfdikifiljjab
