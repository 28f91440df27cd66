/- Chapter 3: the reveals that the laws draw. -/
import Derived.Test.YtgmhodmgbhpdaadRev8
namespace Go.Proofs.Ytgmhodmgbhpdaad
open Go.ChangeShapes Go.WideShapes Go.ChangeAt Go.RowKit Go.Joins Go.Sort
set_option linter.unusedVariables false

theorem len_snocV (o : List Rv) (x : Rv) : o.length + 1 = (o ++ [x]).length := by simp
theorem RowV.put {base : Nat} {w : World} {sa : Option Addr} {cap : Nat} {ll : List Rv} (h : RowV base w sa cap ll) {k : Nat} (hk : ∀ b, sa = some ⟨b, 0, none⟩ → b ≠ k) (j : Nat) (v : Value) : RowV base (w.setCell ⟨k, j, none⟩ v) sa cap ll := by
  obtain ⟨h1, h2⟩ := h
  refine ⟨h1, ?_⟩
  rcases h2 with h2 | ⟨b, c, cur, h2, h3, h4, h5⟩
  · exact .inl h2
  · refine .inr ⟨b, c, cur, h2, h3, ?_, h5⟩
    simp only [Value.slice.injEq] at h2
    have := hk b h2.1
    exact (Below.heap_setCell w ⟨k, j, none⟩ v b (show b ≠ k from this)).trans h4
/-- reveals that were drawn -/
def RvOut (B g p k mx : Nat) (w : World) (e : Ending) (w' : World) : Prop :=
  ∃ (sa : Option Addr) (cap : Nat) (l : List Rv), e = .returned (.slice sa l.length cap) ∧ RowV w.heap.size w' sa cap l ∧ l.length ≤ mx ∧ (∃ q, q ≤ p + k ∧ Rdr B w' g q) ∧ But g w w'
set_option maxRecDepth 100000 in
set_option maxHeartbeats 2000000 in
theorem someReveals_any (B g p : Nat) (w : World) (hr : Rdr B w g p) (hp : p < 8000) :
    Calls Try.prog 32 #[.pointer (some ⟨g, 0, none⟩)] w (RvOut B g p 45 6 w) := by
  have hlt := hr.lt
  have hlow := hr.low
  have hr0 := hr.alloc (.cells #[] 31)
  have hB0 := (But.refl g w).alloc (.cells #[] 31)
  have R0 := RowV.made w.heap.size w (Nat.le_refl _)
  go_enter Try.func32, Try.ntmps32
  go_wp2_with fail
  refine (one_at B g _ [3, 4, 2, 1, 0, 6] 0 6 _ _ _ _ (by simp) rfl hr0 (by omega) (by simp) (by simp) (by intro z hz; simp at hz; omega)).mono ?_
  rintro e w1 ⟨z, rfl, z0, z1, hr1, hb1, hs1⟩
  have hB1 := (hB0.alloc _).trans hb1
  have R1 := (R0.ext ((Ext.refl _).alloc _)).but hb1 hlt
  clear hs1 hb1 hr0 hB0 R0
  go_wp2
  go_loopw [3, 4] (fun v n wr => ∃ (z : Int) (q : Nat) (s2 : Option Addr) (c2 : Nat) (o : List Rv), 0 ≤ z ∧ z ≤ 6 ∧ n = .int .i64 z ∧ v = .slice s2 o.length c2 ∧ (o.length : Int) + z ≤ 6 ∧ (q : Int) + 6 * z ≤ (p : Int) + 37 ∧ RowV w.heap.size wr s2 c2 o ∧ Rdr B wr g q ∧ But g w wr) (fun _ n _ => (intOf n).toNat)
  case atStart => exact ⟨z, p + 1, _, 0, [], z0, z1, rfl, rfl, by simp; omega, by omega, R1, hr1, hB1⟩
  case round =>
    clear R1 hr1 hB1 z0 z1
    obtain ⟨z, q, s2, c2, o, z0, z1, rfl, rfl, ho, hq, hR, hr, hB⟩ := hrel
    by_cases hz : 0 < z
    · go_wp2_with fail
      refine (pick_pos B g _ 250 _ hr (by omega) (by omega)).mono ?_
      rintro e w2 ⟨a, rfl, a0, a1, hr2, hb2, hs2⟩
      have hR2 := hR.but hb2 hlt
      have hB2 := hB.trans hb2
      clear hs2 hb2
      go_wp2_with fail
      refine (pick_pos B g _ 250 _ hr2 (by omega) (by omega)).mono ?_
      rintro e w3 ⟨b, rfl, b0, b1, hr3, hb3, hs3⟩
      have hR3 := hR2.but hb3 hlt
      have hB3 := hB2.trans hb3
      clear hs3 hb3
      have hwb : IntKind.i64.wrap (100 * b) = 100 * b := IntWalk.i64_in _ (by omega)
      go_wp2_with fail
      refine (one_at B g _ [a, 100 * b, 0] 0 24900 _ _ _ _ (by simp) rfl hr3 (by omega) (by simp) (by simp) (by intro z hz; simp at hz; omega)).mono ?_
      rintro e w4 ⟨v, rfl, v0, v1, hr4, hb4, hs4⟩
      have hR4 := (hR3.ext ((Ext.refl _).alloc _)).but hb4 hlt
      have hB4 := (hB3.alloc _).trans hb4
      clear hs4 hb4 hwb
      go_wp2_with fail
      refine (pick_pos B g _ 250 _ hr4 (by omega) (by omega)).mono ?_
      rintro e w5 ⟨s, rfl, s0, s1, hr5, hb5, hs5⟩
      have hR5 := hR4.but hb5 hlt
      have hB5 := hB4.trans hb5
      clear hs5 hb5
      have hkb := hB5.size
      have hkg : w5.heap.size ≠ g := by omega
      have hkl : B ≤ w5.heap.size := by omega
      have HKN := hide (fun b (h : s2 = some ⟨b, 0, none⟩) => Nat.ne_of_lt (hR5.block_lt h).2)
      have HC := hide (fun w => specCommit v s w ⟨⟨v0, by omega⟩, s0, by omega⟩)
      obtain ⟨m, hm⟩ : ∃ m, m = cmt v s := ⟨_, rfl⟩; rw [← hm] at HC
      clear hm
      have X5 := Box.new w5 #[.int .i64 0, .int .i64 v, .int .i64 s] 31
      obtain ⟨x0, x1, x2⟩ := X5.three
      have f5 := unfrozen_of_block X5 0
      go_wp2_with fail; refine (HC.out _).mono ?_; rintro e w' ⟨rfl, rfl⟩
      have X6 := Box.new w5 #[.int .i64 m, .int .i64 v, .int .i64 s] 31
      have r6 := hr5.alloc (.cells #[.int .i64 m, .int .i64 v, .int .i64 s] 31)
      have hB6 := hB5.alloc (.cells #[.int .i64 m, .int .i64 v, .int .i64 s] 31)
      have hR6 := hR5.ext ((Ext.refl w5).alloc (.cells #[.int .i64 m, .int .i64 v, .int .i64 s] 31))
      clear X5
      go_wp2_with fail
      refine (pick_pos B g _ 6 _ r6 (by omega) (by omega)).mono ?_
      rintro e w7 ⟨u, rfl, u0, u1, hr7, hb7, hs7⟩
      have X7 := X6.but hb7 hkg
      have hR7 := hR6.but hb7 hlt
      have hB7 := hB6.trans hb7
      clear hs7 hb7 X6 r6 hB6 hR6 x0 x1 x2 f5 hR hR2 hR3 hR4 hr hr2 hr3 hr4 hr5 hB hB2 hB3 hB4 HC
      have hkz := X7.lt
      by_cases hu : u = 0
      · subst hu
        have c1 := X7.three.2.1
        have f1 := unfrozen_of_block X7 1
        have hs1 : IntKind.i64.wrap (v + 1) = v + 1 := IntWalk.i64_in _ (by omega)
        have HK := hide (fun w2 (e : But g w w2) => (⟨trivial, trivial⟩ : True ∧ True))
        go_wp2
        refine wp_region_held_drew (S := (fun _ => True ∧ True)) (by kernel_rfl) (by first | exact HK.out _ (hB7.drew)) (fun hHeld => ?_)
        refine wpAnyH_take (i := 0) (oi := _) (v := ?_) rfl (by kernel_rfl) (by kernel_rfl) (by kernel_rfl) (fun _ _ _ h => h) (Or.inl ⟨by rfl, ?_⟩) (by assumption) ?_
        rotate_left
        · (intro w hSw; (try dsimp only at hSw); (try obtain ⟨hS0, hS1⟩ := hSw); go_simp; (try with_reducible rfl))
        (try simp only [List.getElem_toArray, List.getElem_cons_zero, Act.put, List.setIfInBounds_toArray, List.set_cons_zero, List.set_cons_succ])
        refine wpAnyH_take (i := 3) (oi := _) (v := ?_) rfl (by kernel_rfl) (by kernel_rfl) (by kernel_rfl) (fun _ _ _ h => h) (Or.inl ⟨by rfl, ?_⟩) (by assumption) ?_
        rotate_left
        · (intro w hSw; (try dsimp only at hSw); (try obtain ⟨hS0, hS1⟩ := hSw); go_simp; (try with_reducible rfl))
        (try simp only [List.getElem_toArray, List.getElem_cons_succ, List.getElem_cons_zero, Act.put, List.setIfInBounds_toArray, List.set_cons_zero, List.set_cons_succ])
        refine wpAnyH_ready (rs := [1, 4]) (by kernel_rfl) (by simp) ?_
        refine AllReadyH.cons (o := _) rfl (fun K hK => ?_) ?_
        · go_simp
          refine hK.out _ _ (HK.out _ (hB7.drew)) (fun hHeld => ?_); clear hK K
          (try simp only [List.getElem_toArray, List.getElem_cons_succ, List.getElem_cons_zero, Act.put, List.setIfInBounds_toArray, List.set_cons_zero, List.set_cons_succ])
          refine wpAnyH_take (i := 2) (oi := _) (v := ?_) rfl (by kernel_rfl) (by kernel_rfl) (by kernel_rfl) (fun _ _ _ h => h) (Or.inl ⟨by rfl, ?_⟩) (by assumption) ?_
          rotate_left
          · (intro w hSw; (try dsimp only at hSw); (try obtain ⟨hS0, hS1⟩ := hSw); go_simp; (try with_reducible rfl))
          (try simp only [List.getElem_toArray, List.getElem_cons_succ, List.getElem_cons_zero, Act.put, List.setIfInBounds_toArray, List.set_cons_zero, List.set_cons_succ])
          refine wpAnyH_ready (rs := [4]) (by kernel_rfl) (by simp) ?_
          refine AllReadyH.cons (o := _) rfl (fun K hK => ?_) AllReadyH.nil
          go_simp
          refine (pick_pos _ _ _ 5 _ hr7.drew (by omega) (by omega)).mono ?_; rintro e w8 ⟨d, rfl, d0, d1, hr8, hb8, hs8⟩
          refine hK.out _ _ (HK.out _ ((hB7.drew).trans hb8)) (fun hHeld => ?_); clear hK K
          (try simp only [List.getElem_toArray, List.getElem_cons_succ, List.getElem_cons_zero, Act.put, List.setIfInBounds_toArray, List.set_cons_zero, List.set_cons_succ])
          clear hs8
          have hB8 := hB7.drew.trans hb8
          have R8 := (hR7.ext (Ext.refl _).drew).but hb8 hlt
          have X8 := (X7.drew).but hb8 hkg
          obtain ⟨e0, c8, e2⟩ := X8.three
          have f8 := unfrozen_of_block X8 1
          obtain ⟨z9, hz9⟩ : ∃ z9, z9 = (v + 1 + d) % 50001 := ⟨_, rfl⟩
          have hs2 : IntKind.i64.wrap (v + 1 + d) = v + 1 + d := IntWalk.i64_in _ (by omega)
          have hs3 : (v + 1 + d).tmod 50001 = z9 := by rw [Int.tmod_eq_emod_of_nonneg (by omega)]; exact hz9.symm
          have hs4 : (v + 1 + d) % 50001 = z9 := hz9.symm
          clear hz9
          refine wpAnyH_take (i := 5) (oi := _) (v := ?_) rfl (by kernel_rfl) (by kernel_rfl) (by kernel_rfl) (fun _ _ _ h => h) (Or.inl ⟨by rfl, ?_⟩) (by assumption) ?_
          rotate_left
          · (intro w hSw; (try dsimp only at hSw); (try obtain ⟨hS0, hS1⟩ := hSw); go_simp; (try with_reducible rfl))
          (try simp only [List.getElem_toArray, List.getElem_cons_succ, List.getElem_cons_zero, Act.put, List.setIfInBounds_toArray, List.set_cons_zero, List.set_cons_succ])
          refine wpAnyH_take (i := 6) (oi := _) (v := ?_) rfl (by kernel_rfl) (by kernel_rfl) (by kernel_rfl) (fun _ _ _ h => h) (Or.inl ⟨by rfl, ?_⟩) (by assumption) ?_
          rotate_left
          · (intro w hSw; (try dsimp only at hSw); (try obtain ⟨hS0, hS1⟩ := hSw); go_simp; (try with_reducible rfl))
          (try simp only [List.getElem_toArray, List.getElem_cons_succ, List.getElem_cons_zero, Act.put, List.setIfInBounds_toArray, List.set_cons_zero, List.set_cons_succ])
          refine wpAnyH_take (i := 7) (oi := _) (v := ?_) rfl (by kernel_rfl) (by kernel_rfl) (by kernel_rfl) (fun _ _ _ h => h) (Or.inl ⟨by rfl, ?_⟩) (by assumption) ?_
          rotate_left
          · (intro w hSw; (try dsimp only at hSw); (try obtain ⟨hS0, hS1⟩ := hSw); go_simp; (try with_reducible rfl))
          (try simp only [List.getElem_toArray, List.getElem_cons_succ, List.getElem_cons_zero, Act.put, List.setIfInBounds_toArray, List.set_cons_zero, List.set_cons_succ])
          refine wpAnyH_ready (rs := [8]) (by kernel_rfl) (by simp) ?_
          refine AllReadyH.cons (o := _) rfl (fun K hK => ?_) AllReadyH.nil
          go_simp
          refine hK.out _ _ (HK.out _ ((((hB7.drew).trans hb8)).put w5.heap.size 1 (.int .i64 z9) hkb)) (fun hHeld => ?_); clear hK K
          (try simp only [List.getElem_toArray, List.getElem_cons_succ, List.getElem_cons_zero, Act.put, List.setIfInBounds_toArray, List.set_cons_zero, List.set_cons_succ])
          refine wpAnyH_done (by kernel_rfl) ?_ _
          have X9 : Box (w8.setCell ⟨w5.heap.size, 1, none⟩ (.int .i64 z9)) w5.heap.size #[.int .i64 m, .int .i64 z9, .int .i64 s] 31 := X8.set 1 (.int .i64 z9)
          have r9 := hr8.put w5.heap.size 1 (.int .i64 z9) hkg hkl
          have B9 := hB8.put w5.heap.size 1 (.int .i64 z9) hkb
          have RR := R8.put HKN.out 1 (.int .i64 z9)
          clear HK
          obtain ⟨x0, x1, x2⟩ := X9.three
          have A1 := Box.newAt (w8.setCell ⟨w5.heap.size, 1, none⟩ (.int .i64 z9)) (w8.heap.size) #[.int .i64 m, .int .i64 z9, .int .i64 s] 31 (by simp)
          have RA := RR.ext ((Ext.refl (w8.setCell ⟨w5.heap.size, 1, none⟩ (.int .i64 z9))).alloc (.cells #[.int .i64 m, .int .i64 z9, .int .i64 s] 31))
          have hzA := B9.size
          have hzB : w.heap.size ≤ ((w8.setCell ⟨w5.heap.size, 1, none⟩ (.int .i64 z9)).alloc (.cells #[.int .i64 m, .int .i64 z9, .int .i64 s] 31)).heap.size := Nat.le_trans hzA (by simp)
          have HRA := hide (r9.alloc (.cells #[.int .i64 m, .int .i64 z9, .int .i64 s] 31))
          have HBA := hide (B9.alloc (.cells #[.int .i64 m, .int .i64 z9, .int .i64 s] 31))
          go_wp2_with (first | (at_builtin; refine append_rv rfl (.tmp 42) (.tmp 44) rfl w.heap.size _ s2 c2 o.length _ o ⟨m, z9, s⟩ _ rfl rfl rfl A1 RA (by omega) hzB ?_; intro g9 c9 w9 R9 hb9 ha9 hc9; have H9 := hide (And.intro hb9 (And.intro ha9 hc9)); clear hb9 ha9 hc9))
          have hr9 := HRA.out.below H9.out.1 hlt
          have hB9 := HBA.out.below H9.out.1 (Nat.le_refl _)
          have hws : IntKind.i64.wrap (z - 1) = z - 1 := IntWalk.i64_in _ (by omega)
          clear H9 HRA HBA A1 RA hzA hzB
          go_wp2
          go_roundw
          case rel => exact ⟨z - 1, (q + 1 + 1 + 1 + 1 + 1 + 1), _, _, o ++ [⟨m, z9, s⟩], by omega, by omega, by first | rfl | (simp [hws]), by rw [len_snocV o], by rw [List.length_append]; simp; omega, by omega, R9, hr9, hB9⟩
          case measure => (first | (simp [intOf]; omega) | (simp [intOf, hws]; omega))
        refine AllReadyH.cons (o := _) rfl (fun K hK => ?_) AllReadyH.nil
        go_simp
        refine (pick_pos _ _ _ 5 _ hr7.drew (by omega) (by omega)).mono ?_; rintro e w8 ⟨d, rfl, d0, d1, hr8, hb8, hs8⟩
        refine hK.out _ _ (HK.out _ ((hB7.drew).trans hb8)) (fun hHeld => ?_); clear hK K
        (try simp only [List.getElem_toArray, List.getElem_cons_succ, List.getElem_cons_zero, Act.put, List.setIfInBounds_toArray, List.set_cons_zero, List.set_cons_succ])
        clear hs8
        have hB8 := hB7.drew.trans hb8
        have R8 := (hR7.ext (Ext.refl _).drew).but hb8 hlt
        have X8 := (X7.drew).but hb8 hkg
        obtain ⟨e0, c8, e2⟩ := X8.three
        have f8 := unfrozen_of_block X8 1
        obtain ⟨z9, hz9⟩ : ∃ z9, z9 = (v + 1 + d) % 50001 := ⟨_, rfl⟩
        have hs2 : IntKind.i64.wrap (v + 1 + d) = v + 1 + d := IntWalk.i64_in _ (by omega)
        have hs3 : (v + 1 + d).tmod 50001 = z9 := by rw [Int.tmod_eq_emod_of_nonneg (by omega)]; exact hz9.symm
        have hs4 : (v + 1 + d) % 50001 = z9 := hz9.symm
        clear hz9
        refine wpAnyH_ready (rs := [1]) (by kernel_rfl) (by simp) ?_
        refine AllReadyH.cons (o := _) rfl (fun K hK => ?_) AllReadyH.nil
        go_simp
        refine hK.out _ _ (HK.out _ ((hB7.drew).trans hb8)) (fun hHeld => ?_); clear hK K
        (try simp only [List.getElem_toArray, List.getElem_cons_succ, List.getElem_cons_zero, Act.put, List.setIfInBounds_toArray, List.set_cons_zero, List.set_cons_succ])
        refine wpAnyH_take (i := 2) (oi := _) (v := ?_) rfl (by kernel_rfl) (by kernel_rfl) (by kernel_rfl) (fun _ _ _ h => h) (Or.inl ⟨by rfl, ?_⟩) (by assumption) ?_
        rotate_left
        · (intro w hSw; (try dsimp only at hSw); (try obtain ⟨hS0, hS1⟩ := hSw); go_simp; (try with_reducible rfl))
        (try simp only [List.getElem_toArray, List.getElem_cons_succ, List.getElem_cons_zero, Act.put, List.setIfInBounds_toArray, List.set_cons_zero, List.set_cons_succ])
        refine wpAnyH_take (i := 5) (oi := _) (v := ?_) rfl (by kernel_rfl) (by kernel_rfl) (by kernel_rfl) (fun _ _ _ h => h) (Or.inl ⟨by rfl, ?_⟩) (by assumption) ?_
        rotate_left
        · (intro w hSw; (try dsimp only at hSw); (try obtain ⟨hS0, hS1⟩ := hSw); go_simp; (try with_reducible rfl))
        (try simp only [List.getElem_toArray, List.getElem_cons_succ, List.getElem_cons_zero, Act.put, List.setIfInBounds_toArray, List.set_cons_zero, List.set_cons_succ])
        refine wpAnyH_take (i := 6) (oi := _) (v := ?_) rfl (by kernel_rfl) (by kernel_rfl) (by kernel_rfl) (fun _ _ _ h => h) (Or.inl ⟨by rfl, ?_⟩) (by assumption) ?_
        rotate_left
        · (intro w hSw; (try dsimp only at hSw); (try obtain ⟨hS0, hS1⟩ := hSw); go_simp; (try with_reducible rfl))
        (try simp only [List.getElem_toArray, List.getElem_cons_succ, List.getElem_cons_zero, Act.put, List.setIfInBounds_toArray, List.set_cons_zero, List.set_cons_succ])
        refine wpAnyH_take (i := 7) (oi := _) (v := ?_) rfl (by kernel_rfl) (by kernel_rfl) (by kernel_rfl) (fun _ _ _ h => h) (Or.inl ⟨by rfl, ?_⟩) (by assumption) ?_
        rotate_left
        · (intro w hSw; (try dsimp only at hSw); (try obtain ⟨hS0, hS1⟩ := hSw); go_simp; (try with_reducible rfl))
        (try simp only [List.getElem_toArray, List.getElem_cons_succ, List.getElem_cons_zero, Act.put, List.setIfInBounds_toArray, List.set_cons_zero, List.set_cons_succ])
        refine wpAnyH_ready (rs := [8]) (by kernel_rfl) (by simp) ?_
        refine AllReadyH.cons (o := _) rfl (fun K hK => ?_) AllReadyH.nil
        go_simp
        refine hK.out _ _ (HK.out _ ((((hB7.drew).trans hb8)).put w5.heap.size 1 (.int .i64 z9) hkb)) (fun hHeld => ?_); clear hK K
        (try simp only [List.getElem_toArray, List.getElem_cons_succ, List.getElem_cons_zero, Act.put, List.setIfInBounds_toArray, List.set_cons_zero, List.set_cons_succ])
        refine wpAnyH_done (by kernel_rfl) ?_ _
        have X9 : Box (w8.setCell ⟨w5.heap.size, 1, none⟩ (.int .i64 z9)) w5.heap.size #[.int .i64 m, .int .i64 z9, .int .i64 s] 31 := X8.set 1 (.int .i64 z9)
        have r9 := hr8.put w5.heap.size 1 (.int .i64 z9) hkg hkl
        have B9 := hB8.put w5.heap.size 1 (.int .i64 z9) hkb
        have RR := R8.put HKN.out 1 (.int .i64 z9)
        clear HK
        obtain ⟨x0, x1, x2⟩ := X9.three
        have A1 := Box.newAt (w8.setCell ⟨w5.heap.size, 1, none⟩ (.int .i64 z9)) (w8.heap.size) #[.int .i64 m, .int .i64 z9, .int .i64 s] 31 (by simp)
        have RA := RR.ext ((Ext.refl (w8.setCell ⟨w5.heap.size, 1, none⟩ (.int .i64 z9))).alloc (.cells #[.int .i64 m, .int .i64 z9, .int .i64 s] 31))
        have hzA := B9.size
        have hzB : w.heap.size ≤ ((w8.setCell ⟨w5.heap.size, 1, none⟩ (.int .i64 z9)).alloc (.cells #[.int .i64 m, .int .i64 z9, .int .i64 s] 31)).heap.size := Nat.le_trans hzA (by simp)
        have HRA := hide (r9.alloc (.cells #[.int .i64 m, .int .i64 z9, .int .i64 s] 31))
        have HBA := hide (B9.alloc (.cells #[.int .i64 m, .int .i64 z9, .int .i64 s] 31))
        go_wp2_with (first | (at_builtin; refine append_rv rfl (.tmp 42) (.tmp 44) rfl w.heap.size _ s2 c2 o.length _ o ⟨m, z9, s⟩ _ rfl rfl rfl A1 RA (by omega) hzB ?_; intro g9 c9 w9 R9 hb9 ha9 hc9; have H9 := hide (And.intro hb9 (And.intro ha9 hc9)); clear hb9 ha9 hc9))
        have hr9 := HRA.out.below H9.out.1 hlt
        have hB9 := HBA.out.below H9.out.1 (Nat.le_refl _)
        have hws : IntKind.i64.wrap (z - 1) = z - 1 := IntWalk.i64_in _ (by omega)
        clear H9 HRA HBA A1 RA hzA hzB
        go_wp2
        go_roundw
        case rel => exact ⟨z - 1, (q + 1 + 1 + 1 + 1 + 1 + 1), _, _, o ++ [⟨m, z9, s⟩], by omega, by omega, by first | rfl | (simp [hws]), by rw [len_snocV o], by rw [List.length_append]; simp; omega, by omega, R9, hr9, hB9⟩
        case measure => (first | (simp [intOf]; omega) | (simp [intOf, hws]; omega))
      · have hd : (u == 0) = false := by rw [beq_eq_false_iff_ne]; exact hu
        obtain ⟨x0, x1, x2⟩ := X7.three
        have A1 := Box.newAt (w7) (w7.heap.size) #[.int .i64 m, .int .i64 v, .int .i64 s] 31 (by rfl)
        have RA := hR7.ext ((Ext.refl (w7)).alloc (.cells #[.int .i64 m, .int .i64 v, .int .i64 s] 31))
        have hzA := hB7.size
        have hzB : w.heap.size ≤ ((w7).alloc (.cells #[.int .i64 m, .int .i64 v, .int .i64 s] 31)).heap.size := Nat.le_trans hzA (by simp)
        have HRA := hide (hr7.alloc (.cells #[.int .i64 m, .int .i64 v, .int .i64 s] 31))
        have HBA := hide (hB7.alloc (.cells #[.int .i64 m, .int .i64 v, .int .i64 s] 31))
        go_wp2_with (first | (at_builtin; refine append_rv rfl (.tmp 42) (.tmp 44) rfl w.heap.size _ s2 c2 o.length _ o ⟨m, v, s⟩ _ rfl rfl rfl A1 RA (by omega) hzB ?_; intro g9 c9 w9 R9 hb9 ha9 hc9; have H9 := hide (And.intro hb9 (And.intro ha9 hc9)); clear hb9 ha9 hc9))
        have hr9 := HRA.out.below H9.out.1 hlt
        have hB9 := HBA.out.below H9.out.1 (Nat.le_refl _)
        have hws : IntKind.i64.wrap (z - 1) = z - 1 := IntWalk.i64_in _ (by omega)
        clear H9 HRA HBA A1 RA hzA hzB
        go_wp2
        go_roundw
        case rel => exact ⟨z - 1, (q + 1 + 1 + 1 + 1 + 1), _, _, o ++ [⟨m, v, s⟩], by omega, by omega, by first | rfl | (simp [hws]), by rw [len_snocV o], by rw [List.length_append]; simp; omega, by omega, R9, hr9, hB9⟩
        case measure => (first | (simp [intOf]; omega) | (simp [intOf, hws]; omega))
    · have hz2 : ¬ (0 : Int) < z := hz
      by_cases h0 : 0 < o.length
      · have h0i : (0 : Int) < (o.length : Int) := by omega
        go_wp2_with fail
        refine (pick_pos B g _ 16 _ hr (by omega) (by omega)).mono ?_
        rintro e w2 ⟨u, rfl, u0, u1, hr2, hb2, hs2⟩
        have hR2 := hR.but hb2 hlt
        have hB2 := hB.trans hb2
        clear hs2 hb2
        by_cases hu : u = 0
        · subst hu
          go_wp2_with fail
          refine (one_at B g _ [-1, 10000] (-1) 10000 _ _ _ _ rfl rfl hr2 (by omega) (by simp) (by simp) (by intro z hz; simp at hz; omega)).mono ?_
          rintro e w3 ⟨v, rfl, v0, v1, hr3, hb3, hs3⟩
          have hR3 := (hR2.ext ((Ext.refl _).alloc _)).but hb3 hlt
          have hB3 := (hB2.alloc _).trans hb3
          clear hs3 hb3
          obtain ⟨b, rfl, hb, hbl, fz, cz⟩ := hR3.spot h0
          have c0 := (cz 0 h0).2.2
          have f0 := fz 2
          rw [Nat.zero_mul, Nat.zero_add] at c0
          obtain ⟨y, hy⟩ : ∃ y, y = (o.getD 0 Rv.z).s := ⟨_, rfl⟩; rw [← hy] at c0
          clear hy cz fz
          have R4 := hR3.storeS h0 v
          rw [Nat.zero_mul, Nat.zero_add] at R4
          have r4 := hr3.put b 2 (.int .i64 v) (by omega) (by omega)
          have B4 := hB3.put b 2 (.int .i64 v) hb
          go_wp2
          go_ret
          exact ⟨some ⟨b, 0, none⟩, c2, _, by rw [List.length_set]; rfl, R4, by rw [List.length_set]; omega, ⟨_, by omega, r4⟩, B4⟩
        · have hd : (u == 0) = false := by rw [beq_eq_false_iff_ne]; exact hu
          go_wp2
          go_ret
          exact ⟨s2, c2, o, rfl, hR2, by omega, ⟨_, by omega, hr2⟩, hB2⟩
      · have h0i : ¬ (0 : Int) < (o.length : Int) := by omega
        go_wp2
        go_ret
        exact ⟨s2, c2, o, rfl, hR, by omega, ⟨_, by omega, hr⟩, hB⟩
end Go.Proofs.Ytgmhodmgbhpdaad
