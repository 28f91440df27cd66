/- Chapter 2: the walk of the law of least coalitions, at drawn arguments. -/
import Derived.Test.YtjdfdikifiljjabLawK
import Derived.Test.YtjdfdikifiljjabDrawE
import Derived.Deep.RegionHeld3
namespace Go.Proofs.Ytjdfdikifiljjab
open Go.ChangeShapes Go.WideShapes Go.ChangeAt Go.RowKit Go.Joins Go.Sort
set_option linter.unusedVariables false

set_option maxRecDepth 100000 in
set_option maxHeartbeats 2000000 in
theorem walkFnLeastCoalitions (w : World) (sa : Option Addr) (len cap : Nat) (h : Code w sa len cap) (hl : len ≤ maxLen) :
    Calls Try.prog 8 #[.slice sa len cap] w fun e w' => e = .returned (.bool true) ∧ Below w.heap.size w w' := by
  have hl' := hl
  unfold maxLen at hl'
  by_cases hbig : 1048576 < len
  · clear h hl
    go_enter Try.func8, Try.ntmps8
    go_wp2
    go_ret
    exact ⟨rfl, Below.refl _ _⟩
  · go_enter Try.func8, Try.ntmps8
    go_wp2_with fail
    refine (dDrawLeastCoalitions sa len cap w h hl).mono ?_
    rintro e w1 ⟨sb, cb, l, need, rfl, hR, l1, l2, hx, n1, n2, E1⟩
    have HL := hide hR.lst
    have X1 := Box.new w1 #[.slice sb l.length cb, .int .i64 need] 28
    have EA := (Ext.refl w1).alloc (.cells #[.slice sb l.length cb, .int .i64 need] 28)
    obtain ⟨c0, c1, _, _⟩ := X1.two
    clear h hl hl' hbig
    clear hR hx
    obtain ⟨q1, q2, q3⟩ := lcL_bd l need
    have HWi := hide fun h c hc => @lc_wins l need h c hc
    have HWo := hide fun h c hc k hk => @lc_without l need h c hc k hk
    have HAp := hide fun h i k hi hk => @lc_apart l need h i k hi hk
    have HL0 := hide (show ¬ Go.Proofs.Ytjdfdikifiljjab.sb l need = true → (lcL l need).length ≤ 0 from fun h => by unfold lcL; rw [if_neg h]; simp)
    go_wp2_with fail; refine (implLeastC sb cb l need _ (HL.out.ext EA) (by omega)).mono ?_; rintro e w2 ⟨sL, cL, hsL, rfl, ML, E2⟩
    clear c0 c1
    obtain ⟨c0, c1, _, _⟩ := (X1.keep E2).two
    have CS := hide fun w h => specLeastC sb cb l need w h (by omega)
    go_wp2_with fail; refine (CS.out _ (HL.out.ext (EA.trans E2))).mono ?_; rintro e w3 ⟨s3, c3, hs3, rfl, M3, E3⟩
    have HM := hide (ML.mst.ext E3)
    have HM3 := hide M3.mst
    have HQ := hide q2
    obtain ⟨LC, hLC⟩ : ∃ LC, LC = lcL l need := ⟨_, rfl⟩; rw [← hLC] at HM HM3 HWi HWo HAp HL0 q1 HQ CS ⊢
    clear c0 c1 ML M3 q2 q3 hLC
    have X3 := X1.keep (E2.trans E3)
    have E13 := EA.trans (E2.trans E3)
    go_wp2_with fail; refine (equalLists_same sL s3 cL c3 LC _ HM.out HM3.out (by omega) (fun i hi => by have := HQ.out i hi; omega)).mono ?_; rintro e w4 ⟨rfl, E4⟩
    have X4 := X3.keep E4
    have E14 := E13.trans E4
    have HM4 := hide (HM.out.ext E4)
    clear HM HM3
    by_cases hz : LC.length ≤ 0
    · have hv0 : ((LC.length : Int) == 0) = true := by rw [beq_iff_eq]; omega
      clear HWi HWo HAp HL0
      obtain ⟨c0, c1, _, _⟩ := X4.two
      go_wp2_with fail; refine (CS.out _ (HL.out.ext E14)).mono ?_; rintro e w5 ⟨s5, c5, hs5, rfl, M5, E5⟩
      go_wp2_with fail; refine (equalLists_same sL s5 cL c5 LC _ (HM4.out.ext E5) M5.mst (by omega) (fun i hi => by have := HQ.out i hi; omega)).mono ?_; rintro e w6 ⟨rfl, E6⟩
      go_wp2
      go_ret
      exact ⟨rfl, E1.trans (E14.trans (E5.trans E6))⟩
    · have hv0 : ((LC.length : Int) == 0) = false := by rw [beq_eq_false_iff_ne]; omega
      have hs : Go.Proofs.Ytjdfdikifiljjab.sb l need = true := Decidable.byContradiction fun h => hz (HL0.out h)
      have HWi2 := hide fun c hc => HWi.out hs c hc
      have HWo2 := hide fun c hc k hk => HWo.out hs c hc k hk
      have HAp2 := hide fun i k hi hk => HAp.out hs i k hi hk
      clear hs HWi HWo HAp HL0 hz
      go_wp2
      go_loopw [5] (fun i wr => ∃ k : Nat, k ≤ LC.length ∧ i = .int .i64 k ∧ Ext w4 wr) (fun i _ => LC.length - (intOf i).toNat)
      case atStart => exact ⟨0, Nat.zero_le _, rfl, Ext.refl _⟩
      case round =>
        obtain ⟨k, hk, rfl, hE⟩ := hrel
        by_cases hlt : k < LC.length
        · obtain ⟨g, off, si, ci, rfl, hg, e1, L1, hcx⟩ := HM4.out.at hlt
          have hn := HQ.out k hlt
          have HWx := hide (HWi2.out _ (getD_memL hlt))
          have HWox := hide fun q hq => HWo2.out _ (getD_memL hlt) q hq
          have HAx := hide fun q hq => HAp2.out k q hlt hq
          obtain ⟨x, hx⟩ : ∃ x, x = LC.getD k [] := ⟨_, rfl⟩; rw [← hx] at e1 L1 hcx hn HWx HWox HAx
          have HX := hide L1; clear L1
          have HE1 := hide e1; clear e1
          clear hx
          have hkL : (k : Int) < (LC.length : Int) := by omega
          have hE0 := hE
          go_wp2
          go_loopw [6] (fun j wx => ∃ q : Nat, q ≤ x.length ∧ j = .int .i64 q ∧ Ext w4 wx) (fun j _ => x.length - (intOf j).toNat)
          case atStart => exact ⟨0, Nat.zero_le _, rfl, hE⟩
          case round =>
            clear hE hE0
            obtain ⟨q, hq, rfl, hE⟩ := hrel
            have e1 := (hE.cell (o := off + k) hg).trans HE1.out
            by_cases hlq : q < x.length
            · have EX := E14.trans hE
              have XR := X4.keep hE
              have HK := hide (show ∀ w', Ext wr w' → w'.cell? ⟨w1.heap.size, 0, none⟩ = some (.slice sb l.length cb) ∧ w'.cell? ⟨w1.heap.size, 1, none⟩ = some (.int .i64 need) ∧ w'.cell? ⟨g, off + k, none⟩ = some (.slice si x.length ci) from fun w' E => ⟨(XR.keep E).two.1, (XR.keep E).two.2.1, (E.cell (o := off + k) (hE.lt hg)).trans e1⟩)
              go_wp2
              clear e1
              refine wp_region_held_drew (S := (fun w' => w'.cell? ⟨w1.heap.size, 0, none⟩ = some (.slice sb l.length cb) ∧ w'.cell? ⟨w1.heap.size, 1, none⟩ = some (.int .i64 need) ∧ w'.cell? ⟨g, off + k, none⟩ = some (.slice si x.length ci))) (by kernel_rfl) (by first | exact HK.out _ ((Ext.refl wr).drew)) (fun hHeld => ?_)
              refine wpAnyH_take (i := 0) (oi := _) (v := ?_) rfl (by kernel_rfl) (by kernel_rfl) (by kernel_rfl) (fun _ _ _ h => h) (Or.inl ⟨by rfl, ?_⟩) (by assumption) ?_
              rotate_left
              · (intro w hSw; (try dsimp only at hSw); (try obtain ⟨hS0, hS1, hS2⟩ := hSw); go_simp; (try with_reducible rfl))
              (try simp only [List.getElem_toArray, List.getElem_cons_zero, Act.put, List.setIfInBounds_toArray, List.set_cons_zero, List.set_cons_succ])
              refine wpAnyH_take (i := 1) (oi := _) (v := ?_) rfl (by kernel_rfl) (by kernel_rfl) (by kernel_rfl) (fun _ _ _ h => h) (Or.inl ⟨by rfl, ?_⟩) (by assumption) ?_
              rotate_left
              · (intro w hSw; (try dsimp only at hSw); (try obtain ⟨hS0, hS1, hS2⟩ := hSw); go_simp; (try with_reducible rfl))
              (try simp only [List.getElem_toArray, List.getElem_cons_succ, List.getElem_cons_zero, Act.put, List.setIfInBounds_toArray, List.set_cons_zero, List.set_cons_succ])
              refine wpAnyH_take (i := 2) (oi := _) (v := ?_) rfl (by kernel_rfl) (by kernel_rfl) (by kernel_rfl) (fun _ _ _ h => h) (Or.inl ⟨by rfl, ?_⟩) (by assumption) ?_
              rotate_left
              · (intro w hSw; (try dsimp only at hSw); (try obtain ⟨hS0, hS1, hS2⟩ := hSw); go_simp; (try with_reducible rfl))
              (try simp only [List.getElem_toArray, List.getElem_cons_succ, List.getElem_cons_zero, Act.put, List.setIfInBounds_toArray, List.set_cons_zero, List.set_cons_succ])
              refine wpAnyH_take (i := 3) (oi := _) (v := ?_) rfl (by kernel_rfl) (by kernel_rfl) (by kernel_rfl) (fun _ _ _ h => h) (Or.inl ⟨by rfl, ?_⟩) (by assumption) ?_
              rotate_left
              · (intro w hSw; (try dsimp only at hSw); (try obtain ⟨hS0, hS1, hS2⟩ := hSw); go_simp; (try with_reducible rfl))
              (try simp only [List.getElem_toArray, List.getElem_cons_succ, List.getElem_cons_zero, Act.put, List.setIfInBounds_toArray, List.set_cons_zero, List.set_cons_succ])
              refine wpAnyH_take (i := 4) (oi := _) (v := ?_) rfl (by kernel_rfl) (by kernel_rfl) (by kernel_rfl) (fun _ _ _ h => h) (Or.inl ⟨by rfl, ?_⟩) (by assumption) ?_
              rotate_left
              · (intro w hSw; (try dsimp only at hSw); (try obtain ⟨hS0, hS1, hS2⟩ := hSw); go_simp; (try with_reducible rfl))
              (try simp only [List.getElem_toArray, List.getElem_cons_succ, List.getElem_cons_zero, Act.put, List.setIfInBounds_toArray, List.set_cons_zero, List.set_cons_succ])
              refine wpAnyH_take (i := 5) (oi := _) (v := ?_) rfl (by kernel_rfl) (by kernel_rfl) (by kernel_rfl) (fun _ _ _ h => h) (Or.inl ⟨by rfl, ?_⟩) (by assumption) ?_
              rotate_left
              · (intro w hSw; (try dsimp only at hSw); (try obtain ⟨hS0, hS1, hS2⟩ := hSw); go_simp; (try with_reducible rfl))
              (try simp only [List.getElem_toArray, List.getElem_cons_succ, List.getElem_cons_zero, Act.put, List.setIfInBounds_toArray, List.set_cons_zero, List.set_cons_succ])
              refine wpAnyH_ready (rs := [6]) (by kernel_rfl) (by simp) ?_
              refine AllReadyH.cons (o := _) rfl (fun K hK => ?_) AllReadyH.nil
              go_simp
              refine (without_any si ci x.length x q _ (HX.out.ext (hE.trans ((Ext.refl wr).drew))) rfl (by omega) hcx hlq).mono ?_; rintro e w6 ⟨s6, c6, rfl, R6, hb6⟩
              refine hK.out _ _ (HK.out _ (((Ext.refl wr).drew).trans (Ext.of hb6))) (fun hHeld => ?_); clear hK K
              (try simp only [List.getElem_toArray, List.getElem_cons_succ, List.getElem_cons_zero, Act.put, List.setIfInBounds_toArray, List.set_cons_zero, List.set_cons_succ])
              have hwl := wo_len x q
              have hwc := R6.cap
              have C7 := implWins sb cb l need s6 c6 (wo x q) _ (HL.out.ext (EX.trans (((Ext.refl wr).drew).trans (Ext.of hb6)))) (by omega) R6.lst (by omega) hwc
              rw [HWox.out q hlq] at C7
              clear hwc
              refine wpAnyH_ready (rs := [7]) (by kernel_rfl) (by simp) ?_
              refine AllReadyH.cons (o := _) rfl (fun K hK => ?_) AllReadyH.nil
              go_simp
              refine (C7).mono ?_; rintro e w7 ⟨rfl, E7⟩
              refine hK.out _ _ (HK.out _ ((((Ext.refl wr).drew).trans (Ext.of hb6)).trans E7)) (fun hHeld => ?_); clear hK K
              (try simp only [List.getElem_toArray, List.getElem_cons_succ, List.getElem_cons_zero, Act.put, List.setIfInBounds_toArray, List.set_cons_zero, List.set_cons_succ])
              clear C7
              refine wpAnyH_done (by kernel_rfl) ?_ _
              have E12 := (((Ext.refl wr).drew).trans (Ext.of hb6)).trans E7
              go_wp2
              go_roundw
              case rel => exact ⟨q + 1, by omega, by go_num, hE.trans E12⟩
              case measure => simp [intOf]; omega
            · obtain rfl : q = x.length := by omega
              have hE1 := hE
              go_wp2
              clear e1
              go_loopw [7] (fun j wx => ∃ q : Nat, q ≤ k ∧ j = .int .i64 q ∧ Ext w4 wx) (fun j _ => k - (intOf j).toNat)
              case atStart => exact ⟨0, Nat.zero_le _, rfl, hE⟩
              case round =>
                clear hE hE1
                obtain ⟨q, hq, rfl, hE⟩ := hrel
                have e1 := (hE.cell (o := off + k) hg).trans HE1.out
                have EX := E14.trans hE
                have XR := X4.keep hE
                by_cases hlq : q < k
                · obtain ⟨g2, off2, sj, cj, e9, hg2, e2, L2, hcy⟩ := HM4.out.at (i := q) (by omega)
                  cases e9
                  have hny := HQ.out q (by omega)
                  obtain ⟨a1, a2⟩ := HAx.out q hlq
                  have e2 := (hE.cell (o := off + q) hg).trans e2
                  obtain ⟨y, hy⟩ : ∃ y, y = LC.getD q [] := ⟨_, rfl⟩; rw [← hy] at e2 L2 hny a1 a2
                  have C1 := hide fun d os => within_any si sj ci cj x.length y.length x y (grow (redrawn wr d) os) ((HX.out.ext hE).ext (below_regrown _ _ _)) ((L2.ext hE).ext (below_regrown _ _ _)) rfl rfl (by omega) (by omega)
                  have C2 := hide fun d os => within_any sj si cj ci y.length x.length y x (grow (redrawn wr d) os) ((L2.ext hE).ext (below_regrown _ _ _)) ((HX.out.ext hE).ext (below_regrown _ _ _)) rfl rfl (by omega) (by omega)
                  rw [a1] at C1
                  rw [a2] at C2
                  have k1 := cell_regrown e1
                  have k2 := cell_regrown e2
                  have hqL : (q : Int) < (LC.length : Int) := by omega
                  clear hy a1 a2 L2
                  go_wp2
                  refine wp_region_quiet_below (by kernel_rfl) (by kernel_rfl) ?_
                  repeat (go_big_quiet_step (first | (go_at_call 41; with_reducible exact Same.quiet (C1.out _ _)) | (go_at_call 41; with_reducible exact Same.quiet (C2.out _ _))))
                  refine wpQuiet_nil ?_; intro w9 hq; have E9 := Ext.class hq; clear hq
                  go_wp2
                  go_roundw
                  case rel => exact ⟨q + 1, by omega, by go_num, hE.trans E9⟩
                  case measure => simp [intOf]; omega
                · obtain rfl : q = k := by omega
                  obtain ⟨r0, r1⟩ := XR.reads (Ext.refl wr)
                  have k1 := cell_regrown e1
                  have C3 := hide fun d os => implWins sb cb l need si ci x (grow (redrawn wr d) os) ((HL.out.ext EX).ext (below_regrown _ _ _)) (by omega) ((HX.out.ext hE).ext (below_regrown _ _ _)) (by omega) hcx
                  rw [HWx.out] at C3
                  go_wp2
                  refine wp_region_quiet_below (by kernel_rfl) (by kernel_rfl) ?_
                  repeat (go_big_quiet_step ((first | (go_at_call 39; exact Ret.quiet (C3.out _ _)))))
                  refine wpQuiet_nil ?_; intro w9 hq; have E9 := Ext.class hq; clear hq
                  go_wp2
                  go_roundw
                  case rel => exact ⟨q + 1, by omega, by go_num, hE.trans E9⟩
                  case measure => simp [intOf]; omega
        · obtain rfl : k = LC.length := by omega
          go_wp2
          go_ret
          exact ⟨rfl, E1.trans (E14.trans hE)⟩
end Go.Proofs.Ytjdfdikifiljjab
