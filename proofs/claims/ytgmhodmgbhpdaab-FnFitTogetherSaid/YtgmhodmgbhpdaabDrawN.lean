/- Chapter 4: the arguments that the laws of shares that fit draw. -/
import Derived.Test.YtgmhodmgbhpdaabDrawL
namespace Go.Proofs.Ytgmhodmgbhpdaab
open Go.ChangeShapes Go.WideShapes Go.ChangeAt Go.RowKit Go.Joins Go.Sort
set_option linter.unusedVariables false

theorem dl_ysK (c xs : List Int) : rg (ysL (dl c xs)) := fun y hy => by
  unfold ysL dl at hy; rw [List.map_map] at hy
  obtain ⟨x, _, rfl⟩ := List.mem_map.1 hy
  exact pv_bd c x
def FtOut (g : Nat) (w : World) (e : Ending) (w' : World) : Prop :=
  ∃ (sa : Option Addr) (cap : Nat) (l : List Sh) (a : Int), e = .returned (.tuple #[.slice sa l.length cap, .int .i64 a]) ∧ RowS w.heap.size w' sa cap l ∧ l.length ≤ 8 ∧ -1 ≤ a ∧ a ≤ 300 ∧ But g w w'
set_option maxRecDepth 100000 in
set_option maxHeartbeats 4000000 in
theorem fitting_any (B g p : Nat) (w : World) (hr : Rdr B w g p) (hp : p < 8000) :
    Calls Try.prog 49 #[.pointer (some ⟨g, 0, none⟩)] w (FtOut g w) := by
  have hlt := hr.lt
  have hlow := hr.low
  go_enter Try.func49, Try.ntmps49
  go_wp2_with fail
  refine (someCoefs_any B g p _ hr (by omega)).mono ?_
  rintro e w1 ⟨sc, cc, c, rfl, RC, nc, _, ⟨q1, hq1, hr1⟩, hB1⟩
  go_wp2_with fail
  refine (somePlaces_any B g q1 _ hr1 (by omega)).mono ?_
  rintro e w2 ⟨sx, cx, xs, rfl, RX, nx, _, ⟨q2, hq2, hr2⟩, hb2⟩
  have hB2 := hB1.trans hb2
  have RC2 := RC.but hb2 hlt
  have hz1 := hB1.size
  have hcx := RX.cap
  have hr3 := hr2.alloc (.cells #[] 40)
  have hB3 := hB2.alloc (.cells #[] 40)
  have R0 := RowS.made w2.heap.size w2 (Nat.le_refl _)
  have hz2 := hB2.size
  have HC := hide (RC2.lst.ext ((Ext.refl w2).alloc (.cells #[] 40)))
  have HX := hide (RX.lst.ext ((Ext.refl w2).alloc (.cells #[] 40)))
  clear hr1 hr2 hB1 hb2 RC RC2 RX
  by_cases hok : cfB c = true; rotate_left
  · rw [Bool.not_eq_true] at hok
    go_wp2_with fail; refine (Same.eqB (specvPoly sc cc c.length c _ HC.out rfl (by omega)) hok).mono ?_; rintro e w' ⟨rfl, rfl⟩
    have R3 := R0.le (base' := w.heap.size) hz2
    have hn0 : ¬ (0 : Int) < 0 := by omega
    by_cases hc0 : (c.length : Int) < 1
    · go_wp2_with fail
      refine (one_at _ _ _ [1, 2, 3, 1, 0, 9] 0 9 _ _ _ _ (by simp) rfl hr3 (by omega) (by simp) (by simp) (by intro z hz; simp at hz; omega)).mono ?_
      rintro e w10 ⟨a, rfl, a0, a1, hr10, hb10, hs10⟩
      have B10 := (hB3.alloc _).trans hb10
      have R10 := (R3.ext ((Ext.refl _).alloc _)).but hb10 hlt
      clear hs10 hb10
      go_wp2
      refine bodyPost_ret (v := .tuple #[.slice (some ⟨w2.heap.size, 0, none⟩) 0 0, .int .i64 a]) (by simp [results, Try.results49, go_sem]) rfl ?_
      exact ⟨(some ⟨w2.heap.size, 0, none⟩), 0, [], a, by first | rfl | (simp), R10, by simp, by omega, by omega, B10⟩
    · go_wp2_with fail
      refine (one_at _ _ _ [(c.length : Int), 2, 3, 1, 0, 9] 0 9 _ _ _ _ (by simp) rfl hr3 (by omega) (by simp) (by simp) (by intro z hz; simp at hz; omega)).mono ?_
      rintro e w10 ⟨a, rfl, a0, a1, hr10, hb10, hs10⟩
      have B10 := (hB3.alloc _).trans hb10
      have R10 := (R3.ext ((Ext.refl _).alloc _)).but hb10 hlt
      clear hs10 hb10
      go_wp2
      refine bodyPost_ret (v := .tuple #[.slice (some ⟨w2.heap.size, 0, none⟩) 0 0, .int .i64 a]) (by simp [results, Try.results49, go_sem]) rfl ?_
      exact ⟨(some ⟨w2.heap.size, 0, none⟩), 0, [], a, by first | rfl | (simp), R10, by simp, by omega, by omega, B10⟩
  by_cases hok2 : plB xs = true; rotate_left
  · rw [Bool.not_eq_true] at hok2
    go_wp2_with fail; refine (Same.eqB (specvPoly sc cc c.length c _ HC.out rfl (by omega)) hok).mono ?_; rintro e w' ⟨rfl, rfl⟩
    go_wp2_with fail; refine (Ret.eqB (specPlaces sx cx xs.length xs _ HX.out rfl (by omega) hcx) hok2).mono ?_; rintro e w4 ⟨rfl, E4⟩
    have R3 := (R0.ext E4).le (base' := w.heap.size) hz2
    have hr4 := hr3.keep E4
    have hB4 := hB3.ext E4
    have hn0 : ¬ (0 : Int) < 0 := by omega
    by_cases hc0 : (c.length : Int) < 1
    · go_wp2_with fail
      refine (one_at _ _ _ [1, 2, 3, 1, 0, 9] 0 9 _ _ _ _ (by simp) rfl hr4 (by omega) (by simp) (by simp) (by intro z hz; simp at hz; omega)).mono ?_
      rintro e w10 ⟨a, rfl, a0, a1, hr10, hb10, hs10⟩
      have B10 := (hB4.alloc _).trans hb10
      have R10 := (R3.ext ((Ext.refl _).alloc _)).but hb10 hlt
      clear hs10 hb10
      go_wp2
      refine bodyPost_ret (v := .tuple #[.slice (some ⟨w2.heap.size, 0, none⟩) 0 0, .int .i64 a]) (by simp [results, Try.results49, go_sem]) rfl ?_
      exact ⟨(some ⟨w2.heap.size, 0, none⟩), 0, [], a, by first | rfl | (simp), R10, by simp, by omega, by omega, B10⟩
    · go_wp2_with fail
      refine (one_at _ _ _ [(c.length : Int), 2, 3, 1, 0, 9] 0 9 _ _ _ _ (by simp) rfl hr4 (by omega) (by simp) (by simp) (by intro z hz; simp at hz; omega)).mono ?_
      rintro e w10 ⟨a, rfl, a0, a1, hr10, hb10, hs10⟩
      have B10 := (hB4.alloc _).trans hb10
      have R10 := (R3.ext ((Ext.refl _).alloc _)).but hb10 hlt
      clear hs10 hb10
      go_wp2
      refine bodyPost_ret (v := .tuple #[.slice (some ⟨w2.heap.size, 0, none⟩) 0 0, .int .i64 a]) (by simp [results, Try.results49, go_sem]) rfl ?_
      exact ⟨(some ⟨w2.heap.size, 0, none⟩), 0, [], a, by first | rfl | (simp), R10, by simp, by omega, by omega, B10⟩
  go_wp2_with fail; refine (Same.eqB (specvPoly sc cc c.length c _ HC.out rfl (by omega)) hok).mono ?_; rintro e w' ⟨rfl, rfl⟩
  go_wp2_with fail; refine (Ret.eqB (specPlaces sx cx xs.length xs _ HX.out rfl (by omega) hcx) hok2).mono ?_; rintro e w4 ⟨rfl, E4⟩
  have hr4 := hr3.keep E4
  have hB4 := hB3.ext E4
  have hz4 := hB4.size
  go_wp2_with fail; refine (specdeal sc sx cc cx xs.length c xs _ (HC.out.ext E4) (HX.out.ext E4) (by omega) rfl (by omega) (cfB_iff.1 hok).2 (plB_iff.1 hok2).2.1).mono ?_; rintro e w5 ⟨s6, c6, rfl, R5, E5⟩
  have hr5 := hr4.keep E5
  have hB5 := hB4.ext E5
  have R6 := R5.le (base' := w.heap.size) hz4
  have hol : (dl c xs).length ≤ 8 := by rw [dl_len]; exact nx
  have HYR := hide (fun k => rg_at (dl_ysK c xs) k)
  clear hok hok2 R5 E5 E4 hr4 hB4 hr3 hB3 R0 HX HC
  obtain ⟨o, ho⟩ : ∃ o, o = dl c xs := ⟨_, rfl⟩; rw [← ho] at R6 hol HYR ⊢
  clear ho
  by_cases hn : 0 < o.length
  · have hni : (0 : Int) < (o.length : Int) := by omega
    go_wp2_with fail
    refine (pick_pos B g _ 2 _ hr5 (by omega) (by omega)).mono ?_
    rintro e w6 ⟨u, rfl, u0, u1, hr6, hb6, hs6⟩
    have R7' := R6.but hb6 hlt
    have hB6 := hB5.trans hb6
    clear hs6 hb6
    by_cases hu : u = 0
    · subst hu
      go_wp2_with fail
      refine (pick_pos B g _ (o.length : Int) _ hr6 (by omega) (by omega)).mono ?_
      rintro e w7 ⟨kk, rfl, k0, k1, hr7, hb7, hs7⟩
      obtain ⟨k, rfl⟩ := Int.eq_ofNat_of_zero_le k0
      have hkl : k < o.length := by omega
      have R7 := R7'.but hb7 hlt
      have hB7 := hB6.trans hb7
      obtain ⟨b, rfl, hb, hbl, fz, cz⟩ := R7.spot hn
      have c1 := (cz k hkl).2
      have f1 := fz (k * 2 + 1)
      have hy := HYR.out k
      rw [ysL_at] at hy
      obtain ⟨y, hyd⟩ : ∃ y, y = (o.getD k Sh.z).y := ⟨_, rfl⟩
      rw [← hyd] at c1 hy
      have HYD := hide hyd
      clear hyd
      have hs1 : IntKind.i64.wrap (y + 1) = y + 1 := IntWalk.i64_in _ (by omega)
      have HK := hide (fun w2 (e : But g w w2) => (⟨trivial, trivial⟩ : True ∧ True))
      clear hs7 hb7 R7' R6 fz cz
      go_wp2
      refine wp_region_held_drew (S := (fun _ => True ∧ True)) (by kernel_rfl) (by first | exact HK.out _ (hB7.drew)) (fun hHeld => ?_)
      refine wpAnyH_take (i := 0) (oi := _) (v := ?_) rfl (by kernel_rfl) (by kernel_rfl) (by kernel_rfl) (fun _ _ _ h => h) (Or.inl ⟨by rfl, ?_⟩) (by assumption) ?_
      rotate_left
      · (intro w hSw; (try dsimp only at hSw); (try obtain ⟨hS0, hS1⟩ := hSw); go_simp; (try with_reducible rfl))
      (try simp only [List.getElem_toArray, List.getElem_cons_zero, Act.put, List.setIfInBounds_toArray, List.set_cons_zero, List.set_cons_succ])
      refine wpAnyH_take (i := 1) (oi := _) (v := ?_) rfl (by kernel_rfl) (by kernel_rfl) (by kernel_rfl) (fun _ _ _ h => h) (Or.inl ⟨by rfl, ?_⟩) (by assumption) ?_
      rotate_left
      · (intro w hSw; (try dsimp only at hSw); (try obtain ⟨hS0, hS1⟩ := hSw); go_simp; (try with_reducible rfl))
      (try simp only [List.getElem_toArray, List.getElem_cons_succ, List.getElem_cons_zero, Act.put, List.setIfInBounds_toArray, List.set_cons_zero, List.set_cons_succ])
      refine wpAnyH_take (i := 2) (oi := _) (v := ?_) rfl (by kernel_rfl) (by kernel_rfl) (by kernel_rfl) (fun _ _ _ h => h) (Or.inl ⟨by rfl, ?_⟩) (by assumption) ?_
      rotate_left
      · (intro w hSw; (try dsimp only at hSw); (try obtain ⟨hS0, hS1⟩ := hSw); go_simp; (try with_reducible rfl))
      (try simp only [List.getElem_toArray, List.getElem_cons_succ, List.getElem_cons_zero, Act.put, List.setIfInBounds_toArray, List.set_cons_zero, List.set_cons_succ])
      refine wpAnyH_take (i := 3) (oi := _) (v := ?_) rfl (by kernel_rfl) (by kernel_rfl) (by kernel_rfl) (fun _ _ _ h => h) (Or.inl ⟨by rfl, ?_⟩) (by assumption) ?_
      rotate_left
      · (intro w hSw; (try dsimp only at hSw); (try obtain ⟨hS0, hS1⟩ := hSw); go_simp; (try with_reducible rfl))
      (try simp only [List.getElem_toArray, List.getElem_cons_succ, List.getElem_cons_zero, Act.put, List.setIfInBounds_toArray, List.set_cons_zero, List.set_cons_succ])
      refine wpAnyH_take (i := 4) (oi := _) (v := ?_) rfl (by kernel_rfl) (by kernel_rfl) (by kernel_rfl) (fun _ _ _ h => h) (Or.inl ⟨by rfl, ?_⟩) (by assumption) ?_
      rotate_left
      · (intro w hSw; (try dsimp only at hSw); (try obtain ⟨hS0, hS1⟩ := hSw); go_simp; (try with_reducible rfl))
      (try simp only [List.getElem_toArray, List.getElem_cons_succ, List.getElem_cons_zero, Act.put, List.setIfInBounds_toArray, List.set_cons_zero, List.set_cons_succ])
      refine wpAnyH_take (i := 5) (oi := _) (v := ?_) rfl (by kernel_rfl) (by kernel_rfl) (by kernel_rfl) (fun _ _ _ h => h) (Or.inl ⟨by rfl, ?_⟩) (by assumption) ?_
      rotate_left
      · (intro w hSw; (try dsimp only at hSw); (try obtain ⟨hS0, hS1⟩ := hSw); go_simp; (try with_reducible rfl))
      (try simp only [List.getElem_toArray, List.getElem_cons_succ, List.getElem_cons_zero, Act.put, List.setIfInBounds_toArray, List.set_cons_zero, List.set_cons_succ])
      refine wpAnyH_take (i := 8) (oi := _) (v := ?_) rfl (by kernel_rfl) (by kernel_rfl) (by kernel_rfl) (fun _ _ _ h => h) (Or.inl ⟨by rfl, ?_⟩) (by assumption) ?_
      rotate_left
      · (intro w hSw; (try dsimp only at hSw); (try obtain ⟨hS0, hS1⟩ := hSw); go_simp; (try with_reducible rfl))
      (try simp only [List.getElem_toArray, List.getElem_cons_succ, List.getElem_cons_zero, Act.put, List.setIfInBounds_toArray, List.set_cons_zero, List.set_cons_succ])
      refine wpAnyH_ready (rs := [6, 9]) (by kernel_rfl) (by simp) ?_
      refine AllReadyH.cons (o := _) rfl (fun K hK => ?_) ?_
      · go_simp
        refine hK.out _ _ (HK.out _ (hB7.drew)) (fun hHeld => ?_); clear hK K
        (try simp only [List.getElem_toArray, List.getElem_cons_succ, List.getElem_cons_zero, Act.put, List.setIfInBounds_toArray, List.set_cons_zero, List.set_cons_succ])
        refine wpAnyH_take (i := 7) (oi := _) (v := ?_) rfl (by kernel_rfl) (by kernel_rfl) (by kernel_rfl) (fun _ _ _ h => h) (Or.inl ⟨by rfl, ?_⟩) (by assumption) ?_
        rotate_left
        · (intro w hSw; (try dsimp only at hSw); (try obtain ⟨hS0, hS1⟩ := hSw); go_simp; (try with_reducible rfl))
        (try simp only [List.getElem_toArray, List.getElem_cons_succ, List.getElem_cons_zero, Act.put, List.setIfInBounds_toArray, List.set_cons_zero, List.set_cons_succ])
        refine wpAnyH_ready (rs := [9]) (by kernel_rfl) (by simp) ?_
        refine AllReadyH.cons (o := _) rfl (fun K hK => ?_) AllReadyH.nil
        go_simp
        refine (pick_pos _ _ _ 9 _ hr7.drew (by omega) (by omega)).mono ?_; rintro e w8 ⟨d, rfl, d0, d1, hr8, hb8, hs8⟩
        refine hK.out _ _ (HK.out _ ((hB7.drew).trans hb8)) (fun hHeld => ?_); clear hK K
        (try simp only [List.getElem_toArray, List.getElem_cons_succ, List.getElem_cons_zero, Act.put, List.setIfInBounds_toArray, List.set_cons_zero, List.set_cons_succ])
        clear hs8
        have hB8 := hB7.drew.trans hb8
        have R8 := (R7.ext (Ext.refl _).drew).but hb8 hlt
        obtain ⟨b8, eb8, _, _, fz8, cz8⟩ := R8.spot (by omega)
        cases eb8
        have c1 := (cz8 k hkl).2
        rw [← HYD.out] at c1
        have f1 := fz8 (k * 2 + 1)
        clear fz8 cz8
        obtain ⟨z, hz⟩ : ∃ z, z = (y + 1 + d) % 251 := ⟨_, rfl⟩
        have hs2 : IntKind.i64.wrap (y + 1 + d) = y + 1 + d := IntWalk.i64_in _ (by omega)
        have hs3 : (y + 1 + d).tmod 251 = z := by rw [Int.tmod_eq_emod_of_nonneg (by omega)]; exact hz.symm
        have hs4 : (y + 1 + d) % 251 = z := hz.symm
        clear hz
        refine wpAnyH_take (i := 10) (oi := _) (v := ?_) rfl (by kernel_rfl) (by kernel_rfl) (by kernel_rfl) (fun _ _ _ h => h) (Or.inl ⟨by rfl, ?_⟩) (by assumption) ?_
        rotate_left
        · (intro w hSw; (try dsimp only at hSw); (try obtain ⟨hS0, hS1⟩ := hSw); go_simp; (try with_reducible rfl))
        (try simp only [List.getElem_toArray, List.getElem_cons_succ, List.getElem_cons_zero, Act.put, List.setIfInBounds_toArray, List.set_cons_zero, List.set_cons_succ])
        refine wpAnyH_take (i := 11) (oi := _) (v := ?_) rfl (by kernel_rfl) (by kernel_rfl) (by kernel_rfl) (fun _ _ _ h => h) (Or.inl ⟨by rfl, ?_⟩) (by assumption) ?_
        rotate_left
        · (intro w hSw; (try dsimp only at hSw); (try obtain ⟨hS0, hS1⟩ := hSw); go_simp; (try with_reducible rfl))
        (try simp only [List.getElem_toArray, List.getElem_cons_succ, List.getElem_cons_zero, Act.put, List.setIfInBounds_toArray, List.set_cons_zero, List.set_cons_succ])
        refine wpAnyH_take (i := 12) (oi := _) (v := ?_) rfl (by kernel_rfl) (by kernel_rfl) (by kernel_rfl) (fun _ _ _ h => h) (Or.inl ⟨by rfl, ?_⟩) (by assumption) ?_
        rotate_left
        · (intro w hSw; (try dsimp only at hSw); (try obtain ⟨hS0, hS1⟩ := hSw); go_simp; (try with_reducible rfl))
        (try simp only [List.getElem_toArray, List.getElem_cons_succ, List.getElem_cons_zero, Act.put, List.setIfInBounds_toArray, List.set_cons_zero, List.set_cons_succ])
        refine wpAnyH_take (i := 13) (oi := _) (v := ?_) rfl (by kernel_rfl) (by kernel_rfl) (by kernel_rfl) (fun _ _ _ h => h) (Or.inl ⟨by rfl, ?_⟩) (by assumption) ?_
        rotate_left
        · (intro w hSw; (try dsimp only at hSw); (try obtain ⟨hS0, hS1⟩ := hSw); go_simp; (try with_reducible rfl))
        (try simp only [List.getElem_toArray, List.getElem_cons_succ, List.getElem_cons_zero, Act.put, List.setIfInBounds_toArray, List.set_cons_zero, List.set_cons_succ])
        refine wpAnyH_ready (rs := [14]) (by kernel_rfl) (by simp) ?_
        refine AllReadyH.cons (o := _) rfl (fun K hK => ?_) AllReadyH.nil
        go_simp
        refine hK.out _ _ (HK.out _ ((((hB7.drew).trans hb8)).put b (k * 2 + 1) (.int .i64 z) (by omega))) (fun hHeld => ?_); clear hK K
        (try simp only [List.getElem_toArray, List.getElem_cons_succ, List.getElem_cons_zero, Act.put, List.setIfInBounds_toArray, List.set_cons_zero, List.set_cons_succ])
        refine wpAnyH_done (by kernel_rfl) ?_ _
        have R9 := R8.storeY hkl z
        have r9 := hr8.put b (k * 2 + 1) (.int .i64 z) (by omega) (by omega)
        have B9 := hB8.put b (k * 2 + 1) (.int .i64 z) (by omega)
        have HLN := hide (show (o.set k ⟨(o.getD k Sh.z).x, z⟩).length = o.length by rw [List.length_set])
        have hW9 := And.intro (show Rdr B (w8.setCell ⟨b, k * 2 + 1, none⟩ (.int .i64 z)) g _ from r9) trivial
        clear hs1 HK
        by_cases hc0 : (c.length : Int) < 1
        · go_wp2_with fail
          refine (one_at _ _ _ [1, 2, 3, 1, 0, 9] 0 9 _ w8.heap.size _ _ (by simp) rfl r9 (by omega) (by simp) (by simp) (by intro z hz; simp at hz; omega)).mono ?_
          rintro e w10 ⟨a, rfl, a0, a1, hr10, hb10, hs10⟩
          have B10 := (B9.alloc _).trans hb10
          have R10 := (R9.ext ((Ext.refl _).alloc _)).but hb10 hlt
          clear hs10 hb10
          go_wp2
          refine bodyPost_ret (v := .tuple #[.slice (some ⟨b, 0, none⟩) o.length c6, .int .i64 a]) (by simp [results, Try.results49, go_sem]) rfl ?_
          exact ⟨(some ⟨b, 0, none⟩), c6, (o.set k ⟨(o.getD k Sh.z).x, z⟩), a, by first | rfl | (simp), R10, by rw [List.length_set]; omega, by omega, by omega, B10⟩
        · go_wp2_with fail
          refine (one_at _ _ _ [(c.length : Int), 2, 3, 1, 0, 9] 0 9 _ w8.heap.size _ _ (by simp) rfl r9 (by omega) (by simp) (by simp) (by intro z hz; simp at hz; omega)).mono ?_
          rintro e w10 ⟨a, rfl, a0, a1, hr10, hb10, hs10⟩
          have B10 := (B9.alloc _).trans hb10
          have R10 := (R9.ext ((Ext.refl _).alloc _)).but hb10 hlt
          clear hs10 hb10
          go_wp2
          refine bodyPost_ret (v := .tuple #[.slice (some ⟨b, 0, none⟩) o.length c6, .int .i64 a]) (by simp [results, Try.results49, go_sem]) rfl ?_
          exact ⟨(some ⟨b, 0, none⟩), c6, (o.set k ⟨(o.getD k Sh.z).x, z⟩), a, by first | rfl | (simp), R10, by rw [List.length_set]; omega, by omega, by omega, B10⟩
      refine AllReadyH.cons (o := _) rfl (fun K hK => ?_) AllReadyH.nil
      go_simp
      refine (pick_pos _ _ _ 9 _ hr7.drew (by omega) (by omega)).mono ?_; rintro e w8 ⟨d, rfl, d0, d1, hr8, hb8, hs8⟩
      refine hK.out _ _ (HK.out _ ((hB7.drew).trans hb8)) (fun hHeld => ?_); clear hK K
      (try simp only [List.getElem_toArray, List.getElem_cons_succ, List.getElem_cons_zero, Act.put, List.setIfInBounds_toArray, List.set_cons_zero, List.set_cons_succ])
      clear hs8
      have hB8 := hB7.drew.trans hb8
      have R8 := (R7.ext (Ext.refl _).drew).but hb8 hlt
      obtain ⟨b8, eb8, _, _, fz8, cz8⟩ := R8.spot (by omega)
      cases eb8
      have c1 := (cz8 k hkl).2
      rw [← HYD.out] at c1
      have f1 := fz8 (k * 2 + 1)
      clear fz8 cz8
      obtain ⟨z, hz⟩ : ∃ z, z = (y + 1 + d) % 251 := ⟨_, rfl⟩
      have hs2 : IntKind.i64.wrap (y + 1 + d) = y + 1 + d := IntWalk.i64_in _ (by omega)
      have hs3 : (y + 1 + d).tmod 251 = z := by rw [Int.tmod_eq_emod_of_nonneg (by omega)]; exact hz.symm
      have hs4 : (y + 1 + d) % 251 = z := hz.symm
      clear hz
      refine wpAnyH_ready (rs := [6]) (by kernel_rfl) (by simp) ?_
      refine AllReadyH.cons (o := _) rfl (fun K hK => ?_) AllReadyH.nil
      go_simp
      refine hK.out _ _ (HK.out _ ((hB7.drew).trans hb8)) (fun hHeld => ?_); clear hK K
      (try simp only [List.getElem_toArray, List.getElem_cons_succ, List.getElem_cons_zero, Act.put, List.setIfInBounds_toArray, List.set_cons_zero, List.set_cons_succ])
      refine wpAnyH_take (i := 7) (oi := _) (v := ?_) rfl (by kernel_rfl) (by kernel_rfl) (by kernel_rfl) (fun _ _ _ h => h) (Or.inl ⟨by rfl, ?_⟩) (by assumption) ?_
      rotate_left
      · (intro w hSw; (try dsimp only at hSw); (try obtain ⟨hS0, hS1⟩ := hSw); go_simp; (try with_reducible rfl))
      (try simp only [List.getElem_toArray, List.getElem_cons_succ, List.getElem_cons_zero, Act.put, List.setIfInBounds_toArray, List.set_cons_zero, List.set_cons_succ])
      refine wpAnyH_take (i := 10) (oi := _) (v := ?_) rfl (by kernel_rfl) (by kernel_rfl) (by kernel_rfl) (fun _ _ _ h => h) (Or.inl ⟨by rfl, ?_⟩) (by assumption) ?_
      rotate_left
      · (intro w hSw; (try dsimp only at hSw); (try obtain ⟨hS0, hS1⟩ := hSw); go_simp; (try with_reducible rfl))
      (try simp only [List.getElem_toArray, List.getElem_cons_succ, List.getElem_cons_zero, Act.put, List.setIfInBounds_toArray, List.set_cons_zero, List.set_cons_succ])
      refine wpAnyH_take (i := 11) (oi := _) (v := ?_) rfl (by kernel_rfl) (by kernel_rfl) (by kernel_rfl) (fun _ _ _ h => h) (Or.inl ⟨by rfl, ?_⟩) (by assumption) ?_
      rotate_left
      · (intro w hSw; (try dsimp only at hSw); (try obtain ⟨hS0, hS1⟩ := hSw); go_simp; (try with_reducible rfl))
      (try simp only [List.getElem_toArray, List.getElem_cons_succ, List.getElem_cons_zero, Act.put, List.setIfInBounds_toArray, List.set_cons_zero, List.set_cons_succ])
      refine wpAnyH_take (i := 12) (oi := _) (v := ?_) rfl (by kernel_rfl) (by kernel_rfl) (by kernel_rfl) (fun _ _ _ h => h) (Or.inl ⟨by rfl, ?_⟩) (by assumption) ?_
      rotate_left
      · (intro w hSw; (try dsimp only at hSw); (try obtain ⟨hS0, hS1⟩ := hSw); go_simp; (try with_reducible rfl))
      (try simp only [List.getElem_toArray, List.getElem_cons_succ, List.getElem_cons_zero, Act.put, List.setIfInBounds_toArray, List.set_cons_zero, List.set_cons_succ])
      refine wpAnyH_take (i := 13) (oi := _) (v := ?_) rfl (by kernel_rfl) (by kernel_rfl) (by kernel_rfl) (fun _ _ _ h => h) (Or.inl ⟨by rfl, ?_⟩) (by assumption) ?_
      rotate_left
      · (intro w hSw; (try dsimp only at hSw); (try obtain ⟨hS0, hS1⟩ := hSw); go_simp; (try with_reducible rfl))
      (try simp only [List.getElem_toArray, List.getElem_cons_succ, List.getElem_cons_zero, Act.put, List.setIfInBounds_toArray, List.set_cons_zero, List.set_cons_succ])
      refine wpAnyH_ready (rs := [14]) (by kernel_rfl) (by simp) ?_
      refine AllReadyH.cons (o := _) rfl (fun K hK => ?_) AllReadyH.nil
      go_simp
      refine hK.out _ _ (HK.out _ ((((hB7.drew).trans hb8)).put b (k * 2 + 1) (.int .i64 z) (by omega))) (fun hHeld => ?_); clear hK K
      (try simp only [List.getElem_toArray, List.getElem_cons_succ, List.getElem_cons_zero, Act.put, List.setIfInBounds_toArray, List.set_cons_zero, List.set_cons_succ])
      refine wpAnyH_done (by kernel_rfl) ?_ _
      have R9 := R8.storeY hkl z
      have r9 := hr8.put b (k * 2 + 1) (.int .i64 z) (by omega) (by omega)
      have B9 := hB8.put b (k * 2 + 1) (.int .i64 z) (by omega)
      have HLN := hide (show (o.set k ⟨(o.getD k Sh.z).x, z⟩).length = o.length by rw [List.length_set])
      have hW9 := And.intro (show Rdr B (w8.setCell ⟨b, k * 2 + 1, none⟩ (.int .i64 z)) g _ from r9) trivial
      clear hs1 HK
      by_cases hc0 : (c.length : Int) < 1
      · go_wp2_with fail
        refine (one_at _ _ _ [1, 2, 3, 1, 0, 9] 0 9 _ w8.heap.size _ _ (by simp) rfl r9 (by omega) (by simp) (by simp) (by intro z hz; simp at hz; omega)).mono ?_
        rintro e w10 ⟨a, rfl, a0, a1, hr10, hb10, hs10⟩
        have B10 := (B9.alloc _).trans hb10
        have R10 := (R9.ext ((Ext.refl _).alloc _)).but hb10 hlt
        clear hs10 hb10
        go_wp2
        refine bodyPost_ret (v := .tuple #[.slice (some ⟨b, 0, none⟩) o.length c6, .int .i64 a]) (by simp [results, Try.results49, go_sem]) rfl ?_
        exact ⟨(some ⟨b, 0, none⟩), c6, (o.set k ⟨(o.getD k Sh.z).x, z⟩), a, by first | rfl | (simp), R10, by rw [List.length_set]; omega, by omega, by omega, B10⟩
      · go_wp2_with fail
        refine (one_at _ _ _ [(c.length : Int), 2, 3, 1, 0, 9] 0 9 _ w8.heap.size _ _ (by simp) rfl r9 (by omega) (by simp) (by simp) (by intro z hz; simp at hz; omega)).mono ?_
        rintro e w10 ⟨a, rfl, a0, a1, hr10, hb10, hs10⟩
        have B10 := (B9.alloc _).trans hb10
        have R10 := (R9.ext ((Ext.refl _).alloc _)).but hb10 hlt
        clear hs10 hb10
        go_wp2
        refine bodyPost_ret (v := .tuple #[.slice (some ⟨b, 0, none⟩) o.length c6, .int .i64 a]) (by simp [results, Try.results49, go_sem]) rfl ?_
        exact ⟨(some ⟨b, 0, none⟩), c6, (o.set k ⟨(o.getD k Sh.z).x, z⟩), a, by first | rfl | (simp), R10, by rw [List.length_set]; omega, by omega, by omega, B10⟩
    · have hd : (u == 0) = false := by rw [beq_eq_false_iff_ne]; exact hu
      by_cases hc0 : (c.length : Int) < 1
      · go_wp2_with fail
        refine (one_at _ _ _ [1, 2, 3, 1, 0, 9] 0 9 _ _ _ _ (by simp) rfl hr6 (by omega) (by simp) (by simp) (by intro z hz; simp at hz; omega)).mono ?_
        rintro e w10 ⟨a, rfl, a0, a1, hr10, hb10, hs10⟩
        have B10 := (hB6.alloc _).trans hb10
        have R10 := (R7'.ext ((Ext.refl _).alloc _)).but hb10 hlt
        clear hs10 hb10
        go_wp2
        refine bodyPost_ret (v := .tuple #[.slice s6 o.length c6, .int .i64 a]) (by simp [results, Try.results49, go_sem]) rfl ?_
        exact ⟨s6, c6, o, a, by first | rfl | (simp), R10, hol, by omega, by omega, B10⟩
      · go_wp2_with fail
        refine (one_at _ _ _ [(c.length : Int), 2, 3, 1, 0, 9] 0 9 _ _ _ _ (by simp) rfl hr6 (by omega) (by simp) (by simp) (by intro z hz; simp at hz; omega)).mono ?_
        rintro e w10 ⟨a, rfl, a0, a1, hr10, hb10, hs10⟩
        have B10 := (hB6.alloc _).trans hb10
        have R10 := (R7'.ext ((Ext.refl _).alloc _)).but hb10 hlt
        clear hs10 hb10
        go_wp2
        refine bodyPost_ret (v := .tuple #[.slice s6 o.length c6, .int .i64 a]) (by simp [results, Try.results49, go_sem]) rfl ?_
        exact ⟨s6, c6, o, a, by first | rfl | (simp), R10, hol, by omega, by omega, B10⟩
  · have hni : ¬ (0 : Int) < (o.length : Int) := by omega
    by_cases hc0 : (c.length : Int) < 1
    · go_wp2_with fail
      refine (one_at _ _ _ [1, 2, 3, 1, 0, 9] 0 9 _ _ _ _ (by simp) rfl hr5 (by omega) (by simp) (by simp) (by intro z hz; simp at hz; omega)).mono ?_
      rintro e w10 ⟨a, rfl, a0, a1, hr10, hb10, hs10⟩
      have B10 := (hB5.alloc _).trans hb10
      have R10 := (R6.ext ((Ext.refl _).alloc _)).but hb10 hlt
      clear hs10 hb10
      go_wp2
      refine bodyPost_ret (v := .tuple #[.slice s6 o.length c6, .int .i64 a]) (by simp [results, Try.results49, go_sem]) rfl ?_
      exact ⟨s6, c6, o, a, by first | rfl | (simp), R10, hol, by omega, by omega, B10⟩
    · go_wp2_with fail
      refine (one_at _ _ _ [(c.length : Int), 2, 3, 1, 0, 9] 0 9 _ _ _ _ (by simp) rfl hr5 (by omega) (by simp) (by simp) (by intro z hz; simp at hz; omega)).mono ?_
      rintro e w10 ⟨a, rfl, a0, a1, hr10, hb10, hs10⟩
      have B10 := (hB5.alloc _).trans hb10
      have R10 := (R6.ext ((Ext.refl _).alloc _)).but hb10 hlt
      clear hs10 hb10
      go_wp2
      refine bodyPost_ret (v := .tuple #[.slice s6 o.length c6, .int .i64 a]) (by simp [results, Try.results49, go_sem]) rfl ?_
      exact ⟨s6, c6, o, a, by first | rfl | (simp), R10, hol, by omega, by omega, B10⟩
theorem dDrawFitTogether (sa : Option Addr) (len cap : Nat) (w : World) (h : Code w sa len cap) (hl : len ≤ maxLen) :
    Calls Try.prog 15 #[.slice sa len cap] w (SIk w) := by
  go_enter Try.func15, Try.ntmps15
  go_wp2_with fail
  refine (newReader_any _ _ _ _ h hl).mono ?_
  rintro e w1 ⟨rfl, hr1, hb1, hs1⟩
  have hE1 : Ext w w1 := Ext.of hb1
  have hz1 := hE1.size
  clear hb1 hs1 h
  go_wp2_with fail
  refine (fitting_any _ _ _ _ hr1 (by omega)).mono ?_
  rintro e w2 ⟨sl, cl, l, a, rfl, R, nl, a0, a1, hB⟩
  have EE := Ext.of (((But.of_below (g := w.heap.size) hE1).trans hB).to_below (B := w.heap.size) (Nat.le_refl _) (Nat.le_refl _))
  go_wp2
  refine bodyPost_ret (v := .tuple #[.slice sl l.length cl, .int .i64 a]) (by simp [results, Try.results15, go_sem]) rfl ?_
  exact ⟨sl, cl, l, a, rfl, R.le hz1, nl, a0, a1, EE⟩
theorem dDrawWrongShare (sa : Option Addr) (len cap : Nat) (w : World) (h : Code w sa len cap) (hl : len ≤ maxLen) :
    Calls Try.prog 24 #[.slice sa len cap] w (SIk w) := by
  go_enter Try.func24, Try.ntmps24
  go_wp2_with fail
  refine (newReader_any _ _ _ _ h hl).mono ?_
  rintro e w1 ⟨rfl, hr1, hb1, hs1⟩
  have hE1 : Ext w w1 := Ext.of hb1
  have hz1 := hE1.size
  clear hb1 hs1 h
  go_wp2_with fail
  refine (fitting_any _ _ _ _ hr1 (by omega)).mono ?_
  rintro e w2 ⟨sl, cl, l, a, rfl, R, nl, a0, a1, hB⟩
  have EE := Ext.of (((But.of_below (g := w.heap.size) hE1).trans hB).to_below (B := w.heap.size) (Nat.le_refl _) (Nat.le_refl _))
  go_wp2
  refine bodyPost_ret (v := .tuple #[.slice sl l.length cl, .int .i64 a]) (by simp [results, Try.results24, go_sem]) rfl ?_
  exact ⟨sl, cl, l, a, rfl, R.le hz1, nl, a0, a1, EE⟩
end Go.Proofs.Ytgmhodmgbhpdaab
