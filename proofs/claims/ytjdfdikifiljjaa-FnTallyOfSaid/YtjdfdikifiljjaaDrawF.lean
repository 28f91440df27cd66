/- The arguments that chapter 2's laws on ballots draw. -/
import Derived.Test.YtjdfdikifiljjaaDrawE
namespace Go.Proofs.Ytjdfdikifiljjaa
open Go.ChangeShapes Go.WideShapes Go.ChangeAt Go.RowKit Go.Joins
set_option linter.unusedVariables false

set_option maxRecDepth 100000 in
set_option maxHeartbeats 400000 in
theorem dDrawTallyOf (sa : Option Addr) (len cap : Nat) (w : World) (h : Code w sa len cap) (hl : len ≤ maxLen) :
    Calls Try.prog 41 #[.slice sa len cap] w (BMIOut w) := by
  have h1 := h.keep ((Below.refl _ _).alloc (Nat.le_refl _) (.cells #[.slice none 0 0, .int .i64 0] 27))
  go_enter Try.func41, Try.ntmps41
  go_wp2_with fail
  refine (newReader_any _ _ _ _ h1 hl).mono ?_
  rintro e w1 ⟨rfl, hr1, hb1, hs1⟩
  have hY1 : Box w1 w.heap.size #[.slice none 0 0, .int .i64 0] 27 := (Box.new w _ _).below hb1 (by simp)
  have hE1 : Ext w w1 := ((Ext.refl w).alloc _).below hb1 (by simp)
  have hB1 : But (w.heap.size + 1) w w1 := But.of_below hE1
  simp at hr1
  clear hb1 hs1 h1 h hE1
  go_wp2_with fail
  refine (anyBody_any (w.heap.size + 1) (w.heap.size + 1) 0 _ hr1 (by omega)).mono ?_
  rintro e w2 ⟨sb, cb, l, need, rfl, hR2, l1, l2, hx, m0, m1, ⟨q, hq, hr2⟩, hb2⟩
  have hl1 := hr1.lt
  have hY2 := hY1.but hb2 (by omega)
  have hB2 := hB1.trans hb2
  have hz2 : w1.heap.size ≤ w2.heap.size := hb2.size
  replace hR2 : Row w1.heap.size w2 sb cb l := hR2
  have HX := hide hx; clear hx
  clear hb2 hr1 hY1 hB1
  go_wp2
  have hX2 := Box.new w2 #[.slice sb l.length cb, .int .i64 need] 27
  have hY2 := hY2.push (.cells #[.slice sb l.length cb, .int .i64 need] 27)
  have hR2 := hR2.ext ((Ext.refl _).alloc (.cells #[.slice sb l.length cb, .int .i64 need] 27))
  have hB2 := hB2.alloc (.cells #[.slice sb l.length cb, .int .i64 need] 27)
  have hr2 := hr2.alloc (.cells #[.slice sb l.length cb, .int .i64 need] 27)
  refine wp_region_held_drew (S := (fun w' => w'.cell? ⟨w2.heap.size, 0, none⟩ = some (.slice sb l.length cb) ∧ w'.cell? ⟨w2.heap.size, 1, none⟩ = some (.int .i64 need))) (by kernel_rfl) (by first | exact ⟨(hX2.drew).two.1, (hX2.drew).two.2.1⟩) (fun hHeld => ?_)
  refine wpAnyH_take (i := 0) (oi := _) (v := ?_) rfl (by kernel_rfl) (by kernel_rfl) (by kernel_rfl) (fun _ _ _ h => h) (Or.inl ⟨by rfl, ?_⟩) (by assumption) ?_
  rotate_left
  · (intro w hSw; (try dsimp only at hSw); (try obtain ⟨hS0, hS1⟩ := hSw); go_simp; (try with_reducible rfl))
  (try simp only [List.getElem_toArray, List.getElem_cons_zero, Act.put, List.setIfInBounds_toArray, List.set_cons_zero, List.set_cons_succ])
  refine wpAnyH_take (i := 1) (oi := _) (v := ?_) rfl (by kernel_rfl) (by kernel_rfl) (by kernel_rfl) (fun _ _ _ h => h) (Or.inl ⟨by rfl, ?_⟩) (by assumption) ?_
  rotate_left
  · (intro w hSw; (try dsimp only at hSw); (try obtain ⟨hS0, hS1⟩ := hSw); go_simp; (try with_reducible rfl))
  (try simp only [List.getElem_toArray, List.getElem_cons_succ, List.getElem_cons_zero, Act.put, List.setIfInBounds_toArray, List.set_cons_zero, List.set_cons_succ])
  refine wpAnyH_take (i := 2) (oi := _) (v := ?_) rfl (by kernel_rfl) (by kernel_rfl) (by kernel_rfl) (fun _ _ _ h => h) (Or.inl ⟨by rfl, ?_⟩) (by assumption) ?_
  rotate_left
  · (intro w hSw; (try dsimp only at hSw); (try obtain ⟨hS0, hS1⟩ := hSw); go_simp; (try with_reducible rfl))
  (try simp only [List.getElem_toArray, List.getElem_cons_succ, List.getElem_cons_zero, Act.put, List.setIfInBounds_toArray, List.set_cons_zero, List.set_cons_succ])
  refine wpAnyH_take (i := 3) (oi := _) (v := ?_) rfl (by kernel_rfl) (by kernel_rfl) (by kernel_rfl) (fun _ _ _ h => h) (Or.inl ⟨by rfl, ?_⟩) (by assumption) ?_
  rotate_left
  · (intro w hSw; (try dsimp only at hSw); (try obtain ⟨hS0, hS1⟩ := hSw); go_simp; (try with_reducible rfl))
  (try simp only [List.getElem_toArray, List.getElem_cons_succ, List.getElem_cons_zero, Act.put, List.setIfInBounds_toArray, List.set_cons_zero, List.set_cons_succ])
  refine wpAnyH_take (i := 4) (oi := _) (v := ?_) rfl (by kernel_rfl) (by kernel_rfl) (by kernel_rfl) (fun _ _ _ h => h) (Or.inl ⟨by rfl, ?_⟩) (by assumption) ?_
  rotate_left
  · (intro w hSw; (try dsimp only at hSw); (try obtain ⟨hS0, hS1⟩ := hSw); go_simp; (try with_reducible rfl))
  (try simp only [List.getElem_toArray, List.getElem_cons_succ, List.getElem_cons_zero, Act.put, List.setIfInBounds_toArray, List.set_cons_zero, List.set_cons_succ])
  refine wpAnyH_take (i := 6) (oi := _) (v := ?_) rfl (by kernel_rfl) (by kernel_rfl) (by kernel_rfl) (fun _ _ _ h => h) (Or.inl ⟨by rfl, ?_⟩) (by assumption) ?_
  rotate_left
  · (intro w hSw; (try dsimp only at hSw); (try obtain ⟨hS0, hS1⟩ := hSw); go_simp; (try with_reducible rfl))
  (try simp only [List.getElem_toArray, List.getElem_cons_succ, List.getElem_cons_zero, Act.put, List.setIfInBounds_toArray, List.set_cons_zero, List.set_cons_succ])
  refine wpAnyH_ready (rs := [5, 7]) (by kernel_rfl) (by simp) ?_
  refine AllReadyH.cons (o := _) rfl (fun K hK => ?_) ?_
  · go_simp
    refine (someBallots_any (w.heap.size + 1) (w.heap.size + 1) q l.length _ hr2.drew (by omega) (by omega)).mono ?_; rintro e w3 ⟨sm, cm, m, rfl, hM3, hml, ⟨q3, hq3, hr3⟩, hb3⟩
    refine hK.out _ _ ⟨(hX2.drew.but hb3 (by omega)).two.1, (hX2.drew.but hb3 (by omega)).two.2.1⟩ (fun hHeld => ?_); clear hK K
    (try simp only [List.getElem_toArray, List.getElem_cons_succ, List.getElem_cons_zero, Act.put, List.setIfInBounds_toArray, List.set_cons_zero, List.set_cons_succ])
    have hX3 := (hX2.drew.but hb3 (by omega)).push (.cells #[.int .i64 1, .int .i64 3, .int .i64 0, .int .i64 2, .int .i64 (-1), .int .i64 4] 3)
    have hY3 := (hY2.drew.but hb3 (by omega)).push (.cells #[.int .i64 1, .int .i64 3, .int .i64 0, .int .i64 2, .int .i64 (-1), .int .i64 4] 3)
    have hR3 := ((hR2.ext (Ext.refl _).drew).but hb3 (by omega)).ext ((Ext.refl _).alloc (.cells #[.int .i64 1, .int .i64 3, .int .i64 0, .int .i64 2, .int .i64 (-1), .int .i64 4] 3))
    have hB3 := (hB2.drew.trans hb3).alloc (.cells #[.int .i64 1, .int .i64 3, .int .i64 0, .int .i64 2, .int .i64 (-1), .int .i64 4] 3)
    have hM3 : Row (w2.heap.size + 1) (w3.alloc (.cells #[.int .i64 1, .int .i64 3, .int .i64 0, .int .i64 2, .int .i64 (-1), .int .i64 4] 3)) sm cm m := (show Row (w2.heap.size + 1) w3 sm cm m by simpa using hM3).ext ((Ext.refl _).alloc _)
    refine wpAnyH_ready (rs := [7]) (by kernel_rfl) (by simp) ?_
    refine AllReadyH.cons (o := _) rfl (fun K hK => ?_) AllReadyH.nil
    go_simp
    refine hK.out _ _ (⟨(hX3).two.1, (hX3).two.2.1⟩) (fun hHeld => ?_); clear hK K
    (try simp only [List.getElem_toArray, List.getElem_cons_succ, List.getElem_cons_zero, Act.put, List.setIfInBounds_toArray, List.set_cons_zero, List.set_cons_succ])
    refine wpAnyH_ready (rs := [8]) (by kernel_rfl) (by simp) ?_
    refine AllReadyH.cons (o := _) rfl (fun K hK => ?_) AllReadyH.nil
    go_simp
    refine (one_at (w.heap.size + 1) (w.heap.size + 1) q3 [1, 3, 0, 2, -1, 4] (-1) 4 _ _ _ _ rfl rfl hr3 (by omega) (by simp) (by simp) (by simp)).mono ?_; rintro e w4 ⟨i, rfl, i0, i1, hr4, hb4, hs4⟩
    refine hK.out _ _ ⟨((hX3).but hb4 (by omega)).two.1, ((hX3).but hb4 (by omega)).two.2.1⟩ (fun hHeld => ?_); clear hK K
    (try simp only [List.getElem_toArray, List.getElem_cons_succ, List.getElem_cons_zero, Act.put, List.setIfInBounds_toArray, List.set_cons_zero, List.set_cons_succ])
    clear hs4
    have hX4 := hX3.but hb4 (by omega)
    have hY4 := hY3.but hb4 (by omega)
    have hR4 := hR3.but hb4 (by omega)
    have hM4 := hM3.but hb4 (by omega)
    have hB4 := hB3.trans hb4
    obtain ⟨b0, b1, b2, b3⟩ := (hY4).two
    refine wpAnyH_ready (rs := [9]) (by kernel_rfl) (by simp) ?_
    refine AllReadyH.cons (o := _) rfl (fun K hK => ?_) AllReadyH.nil
    go_simp
    refine hK.out _ _ (⟨(((hX4).put (g := w.heap.size) (by omega) 0 (.slice sb l.length cb)).put (g := w.heap.size) (by omega) 1 (.int .i64 need)).two.1, (((hX4).put (g := w.heap.size) (by omega) 0 (.slice sb l.length cb)).put (g := w.heap.size) (by omega) 1 (.int .i64 need)).two.2.1⟩) (fun hHeld => ?_); clear hK K
    (try simp only [List.getElem_toArray, List.getElem_cons_succ, List.getElem_cons_zero, Act.put, List.setIfInBounds_toArray, List.set_cons_zero, List.set_cons_succ])
    refine wpAnyH_ready (rs := [10]) (by kernel_rfl) (by simp) ?_
    refine AllReadyH.cons (o := _) rfl (fun K hK => ?_) AllReadyH.nil
    go_simp
    refine hK.out _ _ (⟨(((hX4).put (g := w.heap.size) (by omega) 0 (.slice sb l.length cb)).put (g := w.heap.size) (by omega) 1 (.int .i64 need)).two.1, (((hX4).put (g := w.heap.size) (by omega) 0 (.slice sb l.length cb)).put (g := w.heap.size) (by omega) 1 (.int .i64 need)).two.2.1⟩) (fun hHeld => ?_); clear hK K
    (try simp only [List.getElem_toArray, List.getElem_cons_succ, List.getElem_cons_zero, Act.put, List.setIfInBounds_toArray, List.set_cons_zero, List.set_cons_succ])
    refine wpAnyH_ready (rs := [11]) (by kernel_rfl) (by simp) ?_
    refine AllReadyH.cons (o := _) rfl (fun K hK => ?_) AllReadyH.nil
    go_simp
    refine hK.out _ _ (⟨(((hX4).put (g := w.heap.size) (by omega) 0 (.slice sb l.length cb)).put (g := w.heap.size) (by omega) 1 (.int .i64 need)).two.1, (((hX4).put (g := w.heap.size) (by omega) 0 (.slice sb l.length cb)).put (g := w.heap.size) (by omega) 1 (.int .i64 need)).two.2.1⟩) (fun hHeld => ?_); clear hK K
    (try simp only [List.getElem_toArray, List.getElem_cons_succ, List.getElem_cons_zero, Act.put, List.setIfInBounds_toArray, List.set_cons_zero, List.set_cons_succ])
    refine wpAnyH_done (by kernel_rfl) ?_ _
    go_wp2
    have EE := Ext.of ((((hB4).put w.heap.size 0 (.slice sb l.length cb) (by omega)).put w.heap.size 1 (.int .i64 need) (by omega)).to_below (B := w.heap.size) (by omega) (Nat.le_refl _))
    refine bodyPost_ret (v := .tuple #[.agg #[.slice sb l.length cb, .int .i64 need], .slice sm m.length cm, .int .i64 i]) (by simp [results, Try.results41, go_sem, b0, b1]) rfl ?_
    exact ⟨sb, cb, l, need, sm, cm, m, i, rfl, ((hR4.put (by omega) _ _).put (by omega) _ _).le (by omega), l1, l2, HX.out, m0, m1, ((hM4.put (by omega) _ _).put (by omega) _ _).le (by omega), by omega, i0, i1, EE⟩
  refine AllReadyH.cons (o := _) rfl (fun K hK => ?_) AllReadyH.nil
  go_simp
  refine hK.out _ _ ⟨(hX2.drew.push (.cells #[.int .i64 1, .int .i64 3, .int .i64 0, .int .i64 2, .int .i64 (-1), .int .i64 4] 3)).two.1, (hX2.drew.push (.cells #[.int .i64 1, .int .i64 3, .int .i64 0, .int .i64 2, .int .i64 (-1), .int .i64 4] 3)).two.2.1⟩ (fun hHeld => ?_); clear hK K
  (try simp only [List.getElem_toArray, List.getElem_cons_succ, List.getElem_cons_zero, Act.put, List.setIfInBounds_toArray, List.set_cons_zero, List.set_cons_succ])
  refine wpAnyH_ready (rs := [5]) (by kernel_rfl) (by simp) ?_
  refine AllReadyH.cons (o := _) rfl (fun K hK => ?_) AllReadyH.nil
  go_simp
  refine (someBallots_any (w.heap.size + 1) (w.heap.size + 1) q l.length _ (hr2.drew.alloc _) (by omega) (by omega)).mono ?_; rintro e w3 ⟨sm, cm, m, rfl, hM3, hml, ⟨q3, hq3, hr3⟩, hb3⟩
  refine hK.out _ _ (⟨((hX2.drew.push _).but hb3 (by omega)).two.1, ((hX2.drew.push _).but hb3 (by omega)).two.2.1⟩) (fun hHeld => ?_); clear hK K
  (try simp only [List.getElem_toArray, List.getElem_cons_succ, List.getElem_cons_zero, Act.put, List.setIfInBounds_toArray, List.set_cons_zero, List.set_cons_succ])
  have hX3 := (hX2.drew.push (.cells #[.int .i64 1, .int .i64 3, .int .i64 0, .int .i64 2, .int .i64 (-1), .int .i64 4] 3)).but hb3 (by omega)
  have hY3 := (hY2.drew.push (.cells #[.int .i64 1, .int .i64 3, .int .i64 0, .int .i64 2, .int .i64 (-1), .int .i64 4] 3)).but hb3 (by omega)
  have hR3 := ((hR2.ext (Ext.refl _).drew).ext ((Ext.refl _).alloc (.cells #[.int .i64 1, .int .i64 3, .int .i64 0, .int .i64 2, .int .i64 (-1), .int .i64 4] 3))).but hb3 (by omega)
  have hB3 := (hB2.drew.alloc (.cells #[.int .i64 1, .int .i64 3, .int .i64 0, .int .i64 2, .int .i64 (-1), .int .i64 4] 3)).trans hb3
  have hM3 : Row (w2.heap.size + 1) w3 sm cm m := hM3.le (by simp)
  have hk8 : ∀ j, j < 6 → ∃ z : Int, w3.cell? ⟨w2.heap.size + 1, j, none⟩ = some (.int .i64 z) ∧ -1 ≤ z ∧ z ≤ 4 := fun j hj => by
    have hbx := (Box.newAt (w2.alloc (.cells #[.slice sb l.length cb, .int .i64 need] 27)).drew (w2.heap.size + 1) #[.int .i64 1, .int .i64 3, .int .i64 0, .int .i64 2, .int .i64 (-1), .int .i64 4] 3 (by simp)).but hb3 (by omega)
    have := cell_of_block hbx j
    rw [this]
    match j, hj with
    | 0, _ => exact ⟨1, rfl, by omega, by omega⟩
    | 1, _ => exact ⟨3, rfl, by omega, by omega⟩
    | 2, _ => exact ⟨0, rfl, by omega, by omega⟩
    | 3, _ => exact ⟨2, rfl, by omega, by omega⟩
    | 4, _ => exact ⟨-1, rfl, by omega, by omega⟩
    | 5, _ => exact ⟨4, rfl, by omega, by omega⟩
  have hz3 : w2.heap.size + 1 < w3.heap.size := by have := hb3.size; simp at this; omega
  refine wpAnyH_ready (rs := [8]) (by kernel_rfl) (by simp) ?_
  refine AllReadyH.cons (o := _) rfl (fun K hK => ?_) AllReadyH.nil
  go_simp
  refine (one_any (w.heap.size + 1) (w.heap.size + 1) q3 (w2.heap.size + 1) 6 6 (-1) 4 _ hr3 (by omega) (by omega) hz3 (by omega) (by omega) hk8).mono ?_; rintro e w4 ⟨i, rfl, i0, i1, hr4, hb4, hs4⟩
  refine hK.out _ _ ⟨(hX3.but hb4 (by omega)).two.1, (hX3.but hb4 (by omega)).two.2.1⟩ (fun hHeld => ?_); clear hK K
  (try simp only [List.getElem_toArray, List.getElem_cons_succ, List.getElem_cons_zero, Act.put, List.setIfInBounds_toArray, List.set_cons_zero, List.set_cons_succ])
  clear hs4
  have hX4 := hX3.but hb4 (by omega)
  have hY4 := hY3.but hb4 (by omega)
  have hR4 := hR3.but hb4 (by omega)
  have hM4 := hM3.but hb4 (by omega)
  have hB4 := hB3.trans hb4
  obtain ⟨b0, b1, b2, b3⟩ := (hY4).two
  refine wpAnyH_ready (rs := [9]) (by kernel_rfl) (by simp) ?_
  refine AllReadyH.cons (o := _) rfl (fun K hK => ?_) AllReadyH.nil
  go_simp
  refine hK.out _ _ (⟨(((hX4).put (g := w.heap.size) (by omega) 0 (.slice sb l.length cb)).put (g := w.heap.size) (by omega) 1 (.int .i64 need)).two.1, (((hX4).put (g := w.heap.size) (by omega) 0 (.slice sb l.length cb)).put (g := w.heap.size) (by omega) 1 (.int .i64 need)).two.2.1⟩) (fun hHeld => ?_); clear hK K
  (try simp only [List.getElem_toArray, List.getElem_cons_succ, List.getElem_cons_zero, Act.put, List.setIfInBounds_toArray, List.set_cons_zero, List.set_cons_succ])
  refine wpAnyH_ready (rs := [10]) (by kernel_rfl) (by simp) ?_
  refine AllReadyH.cons (o := _) rfl (fun K hK => ?_) AllReadyH.nil
  go_simp
  refine hK.out _ _ (⟨(((hX4).put (g := w.heap.size) (by omega) 0 (.slice sb l.length cb)).put (g := w.heap.size) (by omega) 1 (.int .i64 need)).two.1, (((hX4).put (g := w.heap.size) (by omega) 0 (.slice sb l.length cb)).put (g := w.heap.size) (by omega) 1 (.int .i64 need)).two.2.1⟩) (fun hHeld => ?_); clear hK K
  (try simp only [List.getElem_toArray, List.getElem_cons_succ, List.getElem_cons_zero, Act.put, List.setIfInBounds_toArray, List.set_cons_zero, List.set_cons_succ])
  refine wpAnyH_ready (rs := [11]) (by kernel_rfl) (by simp) ?_
  refine AllReadyH.cons (o := _) rfl (fun K hK => ?_) AllReadyH.nil
  go_simp
  refine hK.out _ _ (⟨(((hX4).put (g := w.heap.size) (by omega) 0 (.slice sb l.length cb)).put (g := w.heap.size) (by omega) 1 (.int .i64 need)).two.1, (((hX4).put (g := w.heap.size) (by omega) 0 (.slice sb l.length cb)).put (g := w.heap.size) (by omega) 1 (.int .i64 need)).two.2.1⟩) (fun hHeld => ?_); clear hK K
  (try simp only [List.getElem_toArray, List.getElem_cons_succ, List.getElem_cons_zero, Act.put, List.setIfInBounds_toArray, List.set_cons_zero, List.set_cons_succ])
  refine wpAnyH_done (by kernel_rfl) ?_ _
  go_wp2
  have EE := Ext.of ((((hB4).put w.heap.size 0 (.slice sb l.length cb) (by omega)).put w.heap.size 1 (.int .i64 need) (by omega)).to_below (B := w.heap.size) (by omega) (Nat.le_refl _))
  refine bodyPost_ret (v := .tuple #[.agg #[.slice sb l.length cb, .int .i64 need], .slice sm m.length cm, .int .i64 i]) (by simp [results, Try.results41, go_sem, b0, b1]) rfl ?_
  exact ⟨sb, cb, l, need, sm, cm, m, i, rfl, ((hR4.put (by omega) _ _).put (by omega) _ _).le (by omega), l1, l2, HX.out, m0, m1, ((hM4.put (by omega) _ _).put (by omega) _ _).le (by omega), by omega, i0, i1, EE⟩
end Go.Proofs.Ytjdfdikifiljjaa
