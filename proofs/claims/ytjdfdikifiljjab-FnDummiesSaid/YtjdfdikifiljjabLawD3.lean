/- Chapter 2: the walk of the law of dummies, at drawn arguments. -/
import Derived.Test.YtjdfdikifiljjabLawW
import Derived.Test.YtjdfdikifiljjabPureD
import Derived.Test.YtjdfdikifiljjabDrawE
import Derived.Deep.RegionHeld3
namespace Go.Proofs.Ytjdfdikifiljjab
open Go.ChangeShapes Go.WideShapes Go.ChangeAt Go.RowKit Go.Joins Go.Sort
set_option linter.unusedVariables false

set_option maxHeartbeats 400000 in
theorem ascends_yes (sa : Option Addr) (cap n : Nat) (l : List Int) (w : World) (h : Lst w sa l) (hn : l.length = n) (hl : n ≤ 2000000) (hasc : ∀ c, c + 1 < l.length → l.getD c 0 < l.getD (c + 1) 0) :
    Calls Try.prog 50 #[.slice sa n cap] w (Ret (.bool true) w) := by
  subst hn
  have H := hide h; clear h
  have HA := hide hasc; clear hasc
  go_enter Try.func50, Try.ntmps50
  go_wp2
  go_loopw [3] (fun i wr => ∃ c : Nat, i = .int .i64 ((c : Int) + 1) ∧ c ≤ l.length ∧ Ext w wr) (fun i _ => l.length + 1 - (intOf i).toNat)
  case atStart => exact ⟨0, rfl, Nat.zero_le _, Ext.refl _⟩
  case round =>
    obtain ⟨c, rfl, hc, hE⟩ := hrel
    by_cases hlt : c + 1 < l.length
    · obtain ⟨g, off, rfl, hg, e1⟩ := (H.out.ext hE).at hlt
      obtain ⟨g2, off2, e9, hg2, e2⟩ := (H.out.ext hE).at (k := c) (by omega)
      cases e9
      have hxy := HA.out c hlt
      obtain ⟨y, hy⟩ : ∃ y, y = l.getD (c + 1) 0 := ⟨_, rfl⟩; rw [← hy] at e1 hxy
      obtain ⟨x, hx⟩ : ∃ x, x = l.getD c 0 := ⟨_, rfl⟩; rw [← hx] at e2 hxy
      have hd : decide (y ≤ x) = false := decide_eq_false (by omega)
      have hc1 : decide ((c : Int) + 1 < (l.length : Int)) = true := decide_eq_true (by omega)
      have hb0 : (0 : Int) ≤ (c : Int) + 1 := by omega
      have hb1 : (c : Int) + 1 < (l.length : Int) := by omega
      have hb2 : (c : Int) < (l.length : Int) := by omega
      have r1 := cell_regrown e1
      have r2 := cell_regrown e2
      clear hy hx hxy
      go_wp2
      refine wp_region_quiet_below (by kernel_rfl) (by kernel_rfl) ?_
      repeat (go_big_quiet_step (fail))
      refine wpQuiet_nil ?_; intro w9 hq; have E9 := Ext.class hq; clear hq
      go_wp2
      go_roundw
      case rel => exact ⟨c + 1, by go_num, by omega, hE.trans E9⟩
      case measure => simp [intOf]; omega
    · have hc1 : decide ((c : Int) + 1 < (l.length : Int)) = false := decide_eq_false (by omega)
      go_wp2
      go_ret
      exact Ret.bool rfl hE

set_option maxRecDepth 100000 in
set_option maxHeartbeats 2000000 in
theorem walkFnDummies (w : World) (sa : Option Addr) (len cap : Nat) (h : Code w sa len cap) (hl : len ≤ maxLen) :
    Calls Try.prog 11 #[.slice sa len cap] w fun e w' => e = .returned (.bool true) ∧ Below w.heap.size w w' := by
  have hl' := hl
  unfold maxLen at hl'
  by_cases hbig : 1048576 < len
  · clear h hl
    go_enter Try.func11, Try.ntmps11
    go_wp2
    go_ret
    exact ⟨rfl, Below.refl _ _⟩
  · go_enter Try.func11, Try.ntmps11
    go_wp2_with fail
    refine (dDrawDummies sa len cap w h hl).mono ?_
    rintro e w1 ⟨sb, cb, l, need, rfl, hR, l1, l2, hx, n1, n2, E1⟩
    have HL := hide hR.lst
    have X1 := Box.new w1 #[.slice sb l.length cb, .int .i64 need] 28
    have EA := (Ext.refl w1).alloc (.cells #[.slice sb l.length cb, .int .i64 need] 28)
    obtain ⟨c0, c1, _, _⟩ := X1.two
    clear h hl hl' hbig
    clear hR hx
    have hvl := dumL_len l need
    have HVA := hide fun h i hi => @dum_piv l need h i hi
    have HVD := hide fun h i hi => @dum_found l need h i hi
    have HAS := hide (show ∀ c, c + 1 < (dumL l need).length → (dumL l need).getD c 0 < (dumL l need).getD (c + 1) 0 from filK_asc _ _)
    go_wp2_with fail; refine (implDummies sb cb l need _ (HL.out.ext EA) (by omega)).mono ?_; rintro e w2 ⟨s2, c2, rfl, R2, hb2⟩
    have E2 := Ext.of hb2
    clear c0 c1 hb2
    obtain ⟨c0, c1, _, _⟩ := (X1.keep E2).two
    have CS := hide fun w h => specDummies sb cb l need w h (by omega)
    go_wp2_with fail; refine (CS.out _ (HL.out.ext (EA.trans E2))).mono ?_; rintro e w3 ⟨s3, c3, rfl, R3, hb3⟩
    have E3 := Ext.of hb3
    have HV := hide (R2.lst.ext E3)
    obtain ⟨V, hV⟩ : ∃ V, V = dumL l need := ⟨_, rfl⟩; rw [← hV] at HV R3 CS hvl HVA HVD HAS ⊢
    clear c0 c1 hb3 hV
    have X3 := X1.keep (E2.trans E3)
    have E13 := EA.trans (E2.trans E3)
    obtain ⟨c0, c1, _, _⟩ := X3.two
    go_wp2_with fail; refine (eqInts_same s2 s3 c2 c3 V.length V _ HV.out R3.lst rfl (by omega)).mono ?_; rintro e w4 ⟨rfl, E4⟩
    clear c0 c1
    have X4 := X3.keep E4
    have E14 := E13.trans E4
    have HV4 := hide (HV.out.ext E4)
    obtain ⟨c0, c1, _, _⟩ := X4.two
    by_cases hs : Go.Proofs.Ytjdfdikifiljjab.sb l need = true
    · obtain ⟨hv, h8⟩ := sb_iff.1 hs
      have t8 : decide ((8 : Int) < (l.length : Int)) = false := decide_eq_false (by omega)
      go_wp2_with fail; refine (Ret.eqB (implValidBody sb cb l need _ (HL.out.ext E14) (by omega)) hv).mono ?_; rintro e w5 ⟨rfl, E5⟩
      have X5 := X4.keep E5
      have E15 := E14.trans E5
      clear c0 c1
      obtain ⟨c0, c1, _, _⟩ := X5.two
      have hpl2 : l.length ≤ (pvL l need).length := Nat.le_of_eq (pvL_len2 hs).symm
      have hpl3 : (pvL l need).length ≤ l.length := Nat.le_of_eq (pvL_len2 hs)
      go_wp2_with fail; refine (implPivots sb cb l need _ (HL.out.ext E15) (by omega)).mono ?_; rintro e wp ⟨sp, cp, rfl, RP, hbp⟩
      have EP := Ext.of hbp
      clear c0 c1 hbp
      have XP := X5.keep EP
      obtain ⟨c0, c1, _, _⟩ := XP.two
      obtain ⟨q1, q2, q3⟩ := lcL_bd l need
      go_wp2_with fail; refine (implLeastC sb cb l need _ (HL.out.ext (E15.trans EP)) (by omega)).mono ?_; rintro e w6 ⟨sL, cL, hsL, rfl, ML, E6⟩
      have HM := hide ML.mst
      have X6 := XP.keep E6
      have E16 := (E15.trans EP).trans E6
      have HV6 := hide (HV4.out.ext ((E5.trans EP).trans E6))
      have HP6 := hide (RP.lst.ext E6)
      have HQ := hide q2
      have HVA2 := hide fun i hi => HVA.out hs i hi
      have HVD2 := hide fun i hi => HVD.out hs i hi
      obtain ⟨PV, hPV⟩ : ∃ PV, PV = pvL l need := ⟨_, rfl⟩; rw [← hPV] at HP6 HVA2 hpl2 hpl3 ⊢
      obtain ⟨LC, hLC⟩ : ∃ LC, LC = lcL l need := ⟨_, rfl⟩; rw [← hLC] at HM HVD2 q1 HQ ⊢
      clear c0 c1 hs ML q2 q3 hLC HVA HVD hPV RP
      go_wp2
      go_loopw [7] (fun i wr => ∃ k : Nat, k ≤ l.length ∧ i = .int .i64 k ∧ Ext w6 wr) (fun i _ => l.length - (intOf i).toNat)
      case atStart => exact ⟨0, Nat.zero_le _, rfl, Ext.refl _⟩
      case round =>
        obtain ⟨k, hk, rfl, hE⟩ := hrel
        obtain ⟨c0, c1, _, _⟩ := (X6.keep hE).two
        by_cases hlt : k < l.length
        · have HA1 := hide (HVA2.out k hlt)
          have HD1 := hide (HVD2.out k hlt)
          go_wp2
          clear c0 c1
          have hE0 := hE
          go_loopw [8, 9] (fun f j wx => ∃ (q : Nat) (fb : Bool), q ≤ LC.length ∧ j = .int .i64 q ∧ f = .bool fb ∧ Hid (fb = decide (∃ t : Nat, t < q ∧ (k : Int) ∈ LC.getD t [])) ∧ Ext w6 wx) (fun _ j _ => LC.length - (intOf j).toNat)
          case atStart => exact ⟨0, false, Nat.zero_le _, rfl, rfl, (show false = decide _ from (decide_eq_false fun ⟨t, ht, _⟩ => absurd ht (Nat.not_lt_zero _)).symm), hE⟩
          case round =>
            clear hE hE0
            obtain ⟨q, fb, hq, rfl, rfl, HF, hE⟩ := hrel
            by_cases hlq : q < LC.length
            · cases fb with
              | true =>
                have HF2 := hide (show true = decide (∃ t : Nat, t < q + 1 ∧ (k : Int) ∈ LC.getD t []) from (decide_eq_true (by
                  obtain ⟨t, h1, h2⟩ := of_decide_eq_true HF.out.symm
                  exact ⟨t, by omega, h2⟩)).symm)
                go_wp2
                go_roundw
                case rel => exact ⟨q + 1, true, by omega, by go_num, rfl, HF2, hE⟩
                case measure => simp [intOf]; omega
              | false =>
                obtain ⟨g, off, si, ci, rfl, hg, e1, L1, _⟩ := (HM.out.ext hE).at hlq
                have hn := HQ.out q hlq
                have HF2 := hide (show ∀ b, b = decide ((k : Int) ∈ LC.getD q []) → b = decide (∃ t : Nat, t < q + 1 ∧ (k : Int) ∈ LC.getD t []) from fun b hb => by
                  rw [hb, Bool.eq_iff_iff, decide_eq_true_eq, decide_eq_true_eq]
                  constructor
                  · intro h; exact ⟨q, by omega, h⟩
                  · rintro ⟨t, ht, h⟩
                    by_cases e : t = q
                    · rw [e] at h; exact h
                    · exact absurd ⟨t, by omega, h⟩ (of_decide_eq_false HF.out.symm))
                have C := isIn_any si ci (LC.getD q []).length (LC.getD q []) (k : Int) _ L1 rfl (by omega)
                obtain ⟨b, hb⟩ : ∃ b, b = decide ((k : Int) ∈ LC.getD q []) := ⟨_, rfl⟩
                have HF3 := hide (HF2.out b hb)
                rw [← hb] at C
                obtain ⟨x, hx⟩ : ∃ x, x = LC.getD q [] := ⟨_, rfl⟩; rw [← hx] at e1 C
                clear hx hb HF2 L1 hn
                go_wp2_with fail; refine (C).mono ?_; rintro e w' ⟨rfl, rfl⟩
                go_wp2
                go_roundw
                case rel => exact ⟨q + 1, b, by omega, by go_num, rfl, HF3, hE⟩
                case measure => simp [intOf]; omega
            · obtain rfl : q = LC.length := by omega
              have hfb : fb = !decide ((k : Int) ∈ V) := by
                rw [← HD1.out, HF.out, Bool.eq_iff_iff, decide_eq_true_eq, decide_eq_true_eq]
                constructor
                · rintro ⟨t, ht, h⟩; exact ⟨_, getD_memL ht, h⟩
                · rintro ⟨c, hc, h⟩
                  obtain ⟨i, hi, e⟩ := mem_getDL hc
                  exact ⟨i, hi, by rw [e]; exact h⟩
              have EX := E16.trans hE
              have XR := X6.keep hE
              have HVX := hide (HV6.out.ext hE)
              obtain ⟨gp, op, rfl, hgp, ep⟩ := (HP6.out.ext hE).at (k := k) (by omega)
              have hpz := HA1.out
              obtain ⟨pv, hpv⟩ : ∃ pv, pv = PV.getD k 0 := ⟨_, rfl⟩; rw [← hpv] at ep hpz
              have CV := hide fun w (E : Ext wr w) => isIn_any s2 c2 V.length V (k : Int) w (HVX.out.ext E) rfl (by omega)
              obtain ⟨D, hD⟩ : ∃ D, D = decide ((k : Int) ∈ V) := ⟨_, rfl⟩
              rw [← hD] at CV hpz hfb
              have hDD : (D != D) = false := by simp
              have hDf : (D == fb) = false := by rw [hfb]; cases D <;> rfl
              have hkp : (k : Int) < (PV.length : Int) := by omega
              have HK := hide (show ∀ w', Ext wr w' → w'.cell? ⟨w1.heap.size, 0, none⟩ = some (.slice sb l.length cb) ∧ w'.cell? ⟨gp, op + k, none⟩ = some (.int .i64 pv) from fun w' E => ⟨(XR.keep E).two.1, (E.cell hgp).trans ep⟩)
              clear hfb hD hpv
              go_wp2
              refine wp_region_held_drew (S := (fun w' => w'.cell? ⟨w1.heap.size, 0, none⟩ = some (.slice sb l.length cb) ∧ w'.cell? ⟨gp, op + k, none⟩ = some (.int .i64 pv))) (by kernel_rfl) (by first | exact HK.out _ ((Ext.refl wr).drew)) (fun hHeld => ?_)
              refine wpAnyH_take (i := 0) (oi := _) (v := ?_) rfl (by kernel_rfl) (by kernel_rfl) (by kernel_rfl) (fun _ _ _ h => h) (Or.inl ⟨by rfl, ?_⟩) (by assumption) ?_
              rotate_left
              · (intro w hSw; (try dsimp only at hSw); (try obtain ⟨hS0, hS1⟩ := hSw); go_simp; (try with_reducible rfl))
              (try simp only [List.getElem_toArray, List.getElem_cons_zero, Act.put, List.setIfInBounds_toArray, List.set_cons_zero, List.set_cons_succ])
              refine wpAnyH_take (i := 1) (oi := _) (v := ?_) rfl (by kernel_rfl) (by kernel_rfl) (by kernel_rfl) (fun _ _ _ h => h) (Or.inl ⟨by rfl, ?_⟩) (by assumption) ?_
              rotate_left
              · (intro w hSw; (try dsimp only at hSw); (try obtain ⟨hS0, hS1⟩ := hSw); go_simp; (try with_reducible rfl))
              (try simp only [List.getElem_toArray, List.getElem_cons_succ, List.getElem_cons_zero, Act.put, List.setIfInBounds_toArray, List.set_cons_zero, List.set_cons_succ])
              refine wpAnyH_take (i := 3) (oi := _) (v := ?_) rfl (by kernel_rfl) (by kernel_rfl) (by kernel_rfl) (fun _ _ _ h => h) (Or.inl ⟨by rfl, ?_⟩) (by assumption) ?_
              rotate_left
              · (intro w hSw; (try dsimp only at hSw); (try obtain ⟨hS0, hS1⟩ := hSw); go_simp; (try with_reducible rfl))
              (try simp only [List.getElem_toArray, List.getElem_cons_succ, List.getElem_cons_zero, Act.put, List.setIfInBounds_toArray, List.set_cons_zero, List.set_cons_succ])
              refine wpAnyH_take (i := 4) (oi := _) (v := ?_) rfl (by kernel_rfl) (by kernel_rfl) (by kernel_rfl) (fun _ _ _ h => h) (Or.inl ⟨by rfl, ?_⟩) (by assumption) ?_
              rotate_left
              · (intro w hSw; (try dsimp only at hSw); (try obtain ⟨hS0, hS1⟩ := hSw); go_simp; (try with_reducible rfl))
              (try simp only [List.getElem_toArray, List.getElem_cons_succ, List.getElem_cons_zero, Act.put, List.setIfInBounds_toArray, List.set_cons_zero, List.set_cons_succ])
              refine wpAnyH_take (i := 5) (oi := _) (v := ?_) rfl (by kernel_rfl) (by kernel_rfl) (by kernel_rfl) (fun _ _ _ h => h) (Or.inl ⟨by rfl, ?_⟩) (by assumption) ?_
              rotate_left
              · (intro w hSw; (try dsimp only at hSw); (try obtain ⟨hS0, hS1⟩ := hSw); go_simp; (try with_reducible rfl))
              (try simp only [List.getElem_toArray, List.getElem_cons_succ, List.getElem_cons_zero, Act.put, List.setIfInBounds_toArray, List.set_cons_zero, List.set_cons_succ])
              refine wpAnyH_take (i := 6) (oi := _) (v := ?_) rfl (by kernel_rfl) (by kernel_rfl) (by kernel_rfl) (fun _ _ _ h => h) (Or.inl ⟨by rfl, ?_⟩) (by assumption) ?_
              rotate_left
              · (intro w hSw; (try dsimp only at hSw); (try obtain ⟨hS0, hS1⟩ := hSw); go_simp; (try with_reducible rfl))
              (try simp only [List.getElem_toArray, List.getElem_cons_succ, List.getElem_cons_zero, Act.put, List.setIfInBounds_toArray, List.set_cons_zero, List.set_cons_succ])
              refine wpAnyH_take (i := 7) (oi := _) (v := ?_) rfl (by kernel_rfl) (by kernel_rfl) (by kernel_rfl) (fun _ _ _ h => h) (Or.inl ⟨by rfl, ?_⟩) (by assumption) ?_
              rotate_left
              · (intro w hSw; (try dsimp only at hSw); (try obtain ⟨hS0, hS1⟩ := hSw); go_simp; (try with_reducible rfl))
              (try simp only [List.getElem_toArray, List.getElem_cons_succ, List.getElem_cons_zero, Act.put, List.setIfInBounds_toArray, List.set_cons_zero, List.set_cons_succ])
              refine wpAnyH_ready (rs := [2]) (by kernel_rfl) (by simp) ?_
              refine AllReadyH.cons (o := _) rfl (fun K hK => ?_) AllReadyH.nil
              go_simp
              refine (CV.out _ (((Ext.refl wr).drew))).mono ?_; rintro e w' ⟨rfl, rfl⟩
              refine hK.out _ _ (HK.out _ ((Ext.refl wr).drew)) (fun hHeld => ?_); clear hK K
              (try simp only [List.getElem_toArray, List.getElem_cons_succ, List.getElem_cons_zero, Act.put, List.setIfInBounds_toArray, List.set_cons_zero, List.set_cons_succ])
              refine wpAnyH_take (i := 8) (oi := _) (v := ?_) rfl (by kernel_rfl) (by kernel_rfl) (by kernel_rfl) (fun _ _ _ h => h) (Or.inl ⟨by rfl, ?_⟩) (by assumption) ?_
              rotate_left
              · (intro w hSw; (try dsimp only at hSw); (try obtain ⟨hS0, hS1⟩ := hSw); go_simp; (try with_reducible rfl))
              (try simp only [List.getElem_toArray, List.getElem_cons_succ, List.getElem_cons_zero, Act.put, List.setIfInBounds_toArray, List.set_cons_zero, List.set_cons_succ])
              refine wpAnyH_take (i := 9) (oi := _) (v := ?_) rfl (by kernel_rfl) (by kernel_rfl) (by kernel_rfl) (fun _ _ _ h => h) (Or.inl ⟨by rfl, ?_⟩) (by assumption) ?_
              rotate_left
              · (intro w hSw; (try dsimp only at hSw); (try obtain ⟨hS0, hS1⟩ := hSw); go_simp; (try with_reducible rfl))
              (try simp only [List.getElem_toArray, List.getElem_cons_succ, List.getElem_cons_zero, Act.put, List.setIfInBounds_toArray, List.set_cons_zero, List.set_cons_succ])
              refine wpAnyH_take (i := 10) (oi := _) (v := ?_) rfl (by kernel_rfl) (by kernel_rfl) (by kernel_rfl) (fun _ _ _ h => h) (Or.inl ⟨by rfl, ?_⟩) (by assumption) ?_
              rotate_left
              · (intro w hSw; (try dsimp only at hSw); (try obtain ⟨hS0, hS1⟩ := hSw); go_simp; (try with_reducible rfl))
              (try simp only [List.getElem_toArray, List.getElem_cons_succ, List.getElem_cons_zero, Act.put, List.setIfInBounds_toArray, List.set_cons_zero, List.set_cons_succ])
              refine wpAnyH_take (i := 11) (oi := _) (v := ?_) rfl (by kernel_rfl) (by kernel_rfl) (by kernel_rfl) (fun _ _ _ h => h) (Or.inl ⟨by rfl, ?_⟩) (by assumption) ?_
              rotate_left
              · (intro w hSw; (try dsimp only at hSw); (try obtain ⟨hS0, hS1⟩ := hSw); go_simp; (try with_reducible rfl))
              (try simp only [List.getElem_toArray, List.getElem_cons_succ, List.getElem_cons_zero, Act.put, List.setIfInBounds_toArray, List.set_cons_zero, List.set_cons_succ])
              refine wpAnyH_take (i := 13) (oi := _) (v := ?_) rfl (by kernel_rfl) (by kernel_rfl) (by kernel_rfl) (fun _ _ _ h => h) (Or.inl ⟨by rfl, ?_⟩) (by assumption) ?_
              rotate_left
              · (intro w hSw; (try dsimp only at hSw); (try obtain ⟨hS0, hS1⟩ := hSw); go_simp; (try with_reducible rfl))
              (try simp only [List.getElem_toArray, List.getElem_cons_succ, List.getElem_cons_zero, Act.put, List.setIfInBounds_toArray, List.set_cons_zero, List.set_cons_succ])
              refine wpAnyH_ready (rs := [12]) (by kernel_rfl) (by simp) ?_
              refine AllReadyH.cons (o := _) rfl (fun K hK => ?_) AllReadyH.nil
              go_simp
              refine (CV.out _ (((Ext.refl wr).drew))).mono ?_; rintro e w' ⟨rfl, rfl⟩
              refine hK.out _ _ (HK.out _ ((Ext.refl wr).drew)) (fun hHeld => ?_); clear hK K
              (try simp only [List.getElem_toArray, List.getElem_cons_succ, List.getElem_cons_zero, Act.put, List.setIfInBounds_toArray, List.set_cons_zero, List.set_cons_succ])
              refine wpAnyH_take (i := 14) (oi := _) (v := ?_) rfl (by kernel_rfl) (by kernel_rfl) (by kernel_rfl) (fun _ _ _ h => h) (Or.inl ⟨by rfl, ?_⟩) (by assumption) ?_
              rotate_left
              · (intro w hSw; (try dsimp only at hSw); (try obtain ⟨hS0, hS1⟩ := hSw); go_simp; (try with_reducible rfl))
              (try simp only [List.getElem_toArray, List.getElem_cons_succ, List.getElem_cons_zero, Act.put, List.setIfInBounds_toArray, List.set_cons_zero, List.set_cons_succ])
              refine wpAnyH_take (i := 15) (oi := _) (v := ?_) rfl (by kernel_rfl) (by kernel_rfl) (by kernel_rfl) (fun _ _ _ h => h) (Or.inl ⟨by rfl, ?_⟩) (by assumption) ?_
              rotate_left
              · (intro w hSw; (try dsimp only at hSw); (try obtain ⟨hS0, hS1⟩ := hSw); go_simp; (try with_reducible rfl))
              (try simp only [List.getElem_toArray, List.getElem_cons_succ, List.getElem_cons_zero, Act.put, List.setIfInBounds_toArray, List.set_cons_zero, List.set_cons_succ])
              refine wpAnyH_done (by kernel_rfl) ?_ _
              have E12 := (Ext.refl wr).drew
              go_wp2
              go_roundw
              case rel => exact ⟨k + 1, by omega, by go_num, hE.trans E12⟩
              case measure => simp [intOf]; omega
        · obtain rfl : k = l.length := by omega
          go_wp2_with fail; refine (ascends_yes s2 c2 V.length V _ (HV6.out.ext hE) rfl (by omega) HAS.out).mono ?_; rintro e w7 ⟨rfl, E7⟩
          go_wp2
          go_ret
          exact ⟨rfl, E1.trans ((E16.trans hE).trans E7)⟩
    · have C6 := hide fun w h => CS.out w h
      by_cases hv : vb l need = true
      · have h8 : ¬ l.length ≤ 8 := fun h => hs (sb_iff.2 ⟨hv, h⟩)
        have t8 : decide ((8 : Int) < (l.length : Int)) = true := decide_eq_true (by omega)
        clear hs h8
        go_wp2_with fail; refine (Ret.eqB (implValidBody sb cb l need _ (HL.out.ext E14) (by omega)) hv).mono ?_; rintro e w5 ⟨rfl, E5⟩
        clear c0 c1
        obtain ⟨c0, c1, _, _⟩ := (X4.keep E5).two
        go_wp2_with fail; refine (C6.out _ (HL.out.ext (E14.trans E5))).mono ?_; rintro e w6 ⟨s6, c6, rfl, R6, hb6⟩
        have E6 := Ext.of hb6
        go_wp2_with fail; refine (eqInts_same s2 s6 c2 c6 V.length V _ (HV4.out.ext (E5.trans E6)) R6.lst rfl (by omega)).mono ?_; rintro e w7 ⟨rfl, E7⟩
        go_wp2
        go_ret
        exact ⟨rfl, E1.trans ((E14.trans E5).trans (E6.trans E7))⟩
      · rw [Bool.not_eq_true] at hv
        go_wp2_with fail; refine (Ret.eqB (implValidBody sb cb l need _ (HL.out.ext E14) (by omega)) hv).mono ?_; rintro e w5 ⟨rfl, E5⟩
        clear c0 c1
        obtain ⟨c0, c1, _, _⟩ := (X4.keep E5).two
        go_wp2_with fail; refine (C6.out _ (HL.out.ext (E14.trans E5))).mono ?_; rintro e w6 ⟨s6, c6, rfl, R6, hb6⟩
        have E6 := Ext.of hb6
        go_wp2_with fail; refine (eqInts_same s2 s6 c2 c6 V.length V _ (HV4.out.ext (E5.trans E6)) R6.lst rfl (by omega)).mono ?_; rintro e w7 ⟨rfl, E7⟩
        go_wp2
        go_ret
        exact ⟨rfl, E1.trans ((E14.trans E5).trans (E6.trans E7))⟩
end Go.Proofs.Ytjdfdikifiljjab
