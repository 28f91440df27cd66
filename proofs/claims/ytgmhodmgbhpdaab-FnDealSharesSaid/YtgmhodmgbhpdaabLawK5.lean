/- Chapter 4: the walks of the laws of shares that are dealt, at drawn arguments. -/
import Derived.Test.YtgmhodmgbhpdaabLawK4
namespace Go.Proofs.Ytgmhodmgbhpdaab
open Go.ChangeShapes Go.WideShapes Go.ChangeAt Go.RowKit Go.Joins Go.Sort
set_option linter.unusedVariables false

set_option maxRecDepth 100000 in
set_option maxHeartbeats 1600000 in
theorem walkFnDealShares (w : World) (sa : Option Addr) (len cap : Nat) (h : Code w sa len cap) (hl : len ≤ maxLen) :
    Calls Try.prog 13 #[.slice sa len cap] w fun e w' => e = .returned (.bool true) ∧ Below w.heap.size w w' := by
  have hl' := hl
  unfold maxLen at hl'
  by_cases hbig : 1048576 < len
  · clear h hl
    go_enter Try.func13, Try.ntmps13
    go_wp2
    go_ret
    exact ⟨rfl, Below.refl _ _⟩
  go_enter Try.func13, Try.ntmps13
  go_wp2_with fail
  refine (dDrawDealShares sa len cap w h hl).mono ?_
  rintro e w1 ⟨sc, cc, c, sx, cx, xs, rfl, RA, RB, na, nb, E1⟩
  clear h hl hl' hbig
  have HLC := hide RA.lst
  have HLX := hide RB.lst
  have hcap := RB.cap
  clear RA RB
  have HP1 := hide (fun w2 (e : Ext w1 w2) => implDeal sc sx cc cx c xs w2 (HLC.out.ext e) (HLX.out.ext e) (by omega) (by omega))
  have HP2 := hide (fun w2 (e : Ext w1 w2) => specDeal sc sx cc cx c xs w2 (HLC.out.ext e) (HLX.out.ext e) (by omega) (by omega) hcap)
  have hol := deR_len c xs
  have HDF := hide (@de_facts c xs)
  obtain ⟨o, ho⟩ : ∃ o, o = deR c xs := ⟨_, rfl⟩; rw [← ho] at HP1 HP2 hol HDF
  clear ho
  by_cases h0 : 0 < o.length; rotate_left
  · have hn0 : o = [] := List.length_eq_zero_iff.1 (by omega)
    subst hn0
    clear h0 hol HDF
    go_wp2_with fail; refine (HP1.out _ (Ext.refl _)).mono ?_; rintro e w2 ⟨s2, c2, rfl, R2, E2⟩
    go_wp2_with fail; refine (HP2.out _ E2).mono ?_; rintro e w3 ⟨s3, c3, rfl, R3, E3⟩
    go_wp2_with fail; refine (equalShares_yes s2 s3 [] 0 c2 c3 _ (.inl rfl) (.inl rfl) rfl (by omega)).mono ?_; rintro e w4 ⟨rfl, E4⟩
    have E24 := E3.trans E4
    have E14 := E2.trans E24
    go_wp2_with fail; refine (HP2.out _ E14).mono ?_; rintro e w5 ⟨s5, c5, rfl, R5, E5⟩
    go_wp2_with fail; refine (equalShares_yes s2 s5 [] 0 c2 c5 _ (.inl rfl) (.inl rfl) rfl (by omega)).mono ?_; rintro e w6 ⟨rfl, E6⟩
    go_wp2
    go_ret
    exact ⟨rfl, E1.trans (E14.trans (E5.trans E6))⟩
  have hne0 : ((o.length : Int) == 0) = false := by rw [beq_eq_false_iff_ne]; omega
  by_cases hc1 : 0 < c.length; rotate_left
  · have hc0 : c = [] := List.length_eq_zero_iff.1 (by omega)
    subst hc0
    clear hc1 HDF
    go_wp2_with fail; refine (HP1.out _ (Ext.refl _)).mono ?_; rintro e w2 ⟨s2, c2, rfl, R2, E2⟩
    go_wp2_with fail; refine (HP2.out _ E2).mono ?_; rintro e w3 ⟨s3, c3, rfl, R3, E3⟩
    go_wp2_with fail; refine (equalShares_yes s2 s3 o o.length c2 c3 _ (R2.sst.ext E3) R3.sst rfl (by omega)).mono ?_; rintro e w4 ⟨rfl, E4⟩
    have E24 := E3.trans E4
    have E14 := E2.trans E24
    go_wp2_with fail; refine (HP2.out _ E14).mono ?_; rintro e w5 ⟨s5, c5, rfl, R5, E5⟩
    go_wp2_with fail; refine (equalShares_yes s2 s5 o o.length c2 c5 _ (R2.sst.ext (E24.trans E5)) R5.sst rfl (by omega)).mono ?_; rintro e w6 ⟨rfl, E6⟩
    go_wp2
    go_ret
    exact ⟨rfl, E1.trans (E14.trans (E5.trans E6))⟩
  have hcn : ((c.length : Int) == 0) = false := by rw [beq_eq_false_iff_ne]; omega
  obtain ⟨hox, h8, hv, hr, hg⟩ := HDF.out h0
  have HOP := hide (fun (l2 : List Sh) (s : l2.Sublist o) (hl : l2.length = c.length) => de_open hv hr hg hc1 h8 s hl)
  have HVS := hide (svB_yes hv)
  have HFT := hide (de_fit hv hr hg hc1 h8)
  clear hv hr hg hox
  obtain ⟨b0, hb0⟩ : ∃ b, b = c.getD 0 0 := ⟨_, rfl⟩
  rw [← hb0] at HOP
  have HB0 := hide hb0
  clear hb0
  have hzz : ((b0 : Int) != b0) = false := by simp
  go_wp2_with fail; refine (HP1.out _ (Ext.refl _)).mono ?_; rintro e w2 ⟨s2, c2, rfl, R2, E2⟩
  go_wp2_with fail; refine (HP2.out _ E2).mono ?_; rintro e w3 ⟨s3, c3, rfl, R3, E3⟩
  go_wp2_with fail; refine (equalShares_yes s2 s3 o o.length c2 c3 _ (R2.sst.ext E3) R3.sst rfl (by omega)).mono ?_; rintro e w4 ⟨rfl, E4⟩
  have E24 := E3.trans E4
  have E14 := E2.trans E24
  have hoc := R2.cap
  have HR2 := hide (R2.sst.ext E24)
  clear R2 R3
  obtain ⟨g, off, rfl, hg, HSp⟩ := HR2.out.spot (show 0 < o.length by omega)
  have HSP := hide HSp
  clear HSp
  go_wp2
  go_loopw [7] (fun i wr => ∃ k : Nat, k ≤ o.length ∧ i = .int .i64 k ∧ Ext w4 wr) (fun i _ => o.length - (intOf i).toNat)
  case atStart => exact ⟨0, Nat.zero_le _, rfl, Ext.refl _⟩
  case round =>
    obtain ⟨k, hk, rfl, hE⟩ := hrel
    have hwk : IntKind.i64.wrap ((k : Int) + (c.length : Int)) = (k : Int) + (c.length : Int) := IntWalk.i64_in _ (by omega)
    by_cases hlt : k + c.length ≤ o.length
    · have hki : (k : Int) + (c.length : Int) ≤ (o.length : Int) := by omega
      have hkc : (k : Int) + (c.length : Int) ≤ (c2 : Int) := by omega
      have hks : (0 : Int) ≤ (k : Int) := by omega
      have hkk : (k : Int) ≤ (k : Int) + (c.length : Int) := by omega
      have hk0 : (0 : Int) ≤ (k : Int) + (c.length : Int) := by omega
      have ht1 : ((k : Int) + (c.length : Int)).toNat = k + c.length := by omega
      have hmc : k ≠ c2 := by omega
      have hmc2 : k < c2 := by omega
      have hdf : k + c.length - k = c.length := by omega
      have HTL : Hid (((o.drop k).take c.length).length = c.length) := hide (by rw [List.length_take, List.length_drop]; omega)
      have HS2 := hide ((HSP.out.drop k).take c.length)
      have HC := hide (fun n2 w5 (e : Ext w4 w5) => implOS (some ⟨g, off + k * 2, none⟩) n2 c.length ((o.drop k).take c.length) w5 (HS2.out.ext e) HTL.out (by omega))
      rw [HOP.out _ ((List.take_sublist _ _).trans (List.drop_sublist _ _)) HTL.out] at HC
      obtain ⟨gc, oc, rfl, hgc, qc⟩ := (HLC.out.ext (E14.trans hE)).at hc1
      rw [← HB0.out, Nat.add_zero] at qc
      have rc := cell_regrown qc
      clear qc
      go_wp2
      refine wp_region_quiet_below (by kernel_rfl) (by kernel_rfl) ?_
      repeat (go_big_quiet_step ((first | (go_at_call 35; exact Ret.quiet (HC.out _ _ (hE.trans (below_regrown _ _ _)))))))
      refine wpQuiet_nil ?_; intro w9 hq; have E9 := Ext.class hq; clear hq
      go_wp2
      go_roundw
      case rel => exact ⟨k + 1, by omega, by go_num, hE.trans E9⟩
      case measure => (first | (simp [intOf]; done) | (simp [intOf]; omega))
    · have hki : decide ((k : Int) + (c.length : Int) ≤ (o.length : Int)) = false := decide_eq_false (by omega)
      go_wp2_with fail; refine (Ret.eqB (implVS _ c2 o.length o _ (HR2.out.ext hE) rfl (by omega)) HVS.out).mono ?_; rintro e w6 ⟨rfl, E6⟩
      go_wp2_with fail; refine (Ret.eqB (implFT _ c2 o.length o c.length _ (HR2.out.ext (hE.trans E6)) rfl (by omega) hoc) HFT.out).mono ?_; rintro e w7 ⟨rfl, E7⟩
      go_wp2
      go_ret
      exact ⟨rfl, E1.trans (E14.trans (hE.trans (E6.trans E7)))⟩
set_option maxRecDepth 100000 in
set_option maxHeartbeats 1600000 in
theorem walkFnDealSharesMore (w : World) (sa : Option Addr) (len cap : Nat) (h : Code w sa len cap) (hl : len ≤ maxLen) :
    Calls Try.prog 14 #[.slice sa len cap] w fun e w' => e = .returned (.bool true) ∧ Below w.heap.size w w' := by
  have hl' := hl
  unfold maxLen at hl'
  by_cases hbig : 1048576 < len
  · clear h hl
    go_enter Try.func14, Try.ntmps14
    go_wp2
    go_ret
    exact ⟨rfl, Below.refl _ _⟩
  go_enter Try.func14, Try.ntmps14
  go_wp2_with fail
  refine (dDrawDealShares sa len cap w h hl).mono ?_
  rintro e w1 ⟨sc, cc, c, sx, cx, xs, rfl, RA, RB, na, nb, E1⟩
  clear h hl hl' hbig
  have HLC := hide RA.lst
  have HLX := hide RB.lst
  have hcap := RB.cap
  clear RA RB
  have HP1 := hide (fun w2 (e : Ext w1 w2) => implDeal sc sx cc cx c xs w2 (HLC.out.ext e) (HLX.out.ext e) (by omega) (by omega))
  have HP2 := hide (fun w2 (e : Ext w1 w2) => specDeal sc sx cc cx c xs w2 (HLC.out.ext e) (HLX.out.ext e) (by omega) (by omega) hcap)
  have hol := deR_len c xs
  have HDF := hide (@de_facts c xs)
  obtain ⟨o, ho⟩ : ∃ o, o = deR c xs := ⟨_, rfl⟩; rw [← ho] at HP1 HP2 hol HDF
  clear ho
  by_cases h0 : 0 < o.length; rotate_left
  · have hn0 : o = [] := List.length_eq_zero_iff.1 (by omega)
    subst hn0
    clear h0 hol HDF
    go_wp2_with fail; refine (HP1.out _ (Ext.refl _)).mono ?_; rintro e w2 ⟨s2, c2, rfl, R2, E2⟩
    go_wp2_with fail; refine (HP2.out _ E2).mono ?_; rintro e w3 ⟨s3, c3, rfl, R3, E3⟩
    go_wp2_with fail; refine (equalShares_yes s2 s3 [] 0 c2 c3 _ (.inl rfl) (.inl rfl) rfl (by omega)).mono ?_; rintro e w4 ⟨rfl, E4⟩
    have E24 := E3.trans E4
    have E14 := E2.trans E24
    go_wp2_with fail; refine (HP2.out _ E14).mono ?_; rintro e w5 ⟨s5, c5, rfl, R5, E5⟩
    go_wp2_with fail; refine (equalShares_yes s2 s5 [] 0 c2 c5 _ (.inl rfl) (.inl rfl) rfl (by omega)).mono ?_; rintro e w6 ⟨rfl, E6⟩
    go_wp2
    go_ret
    exact ⟨rfl, E1.trans (E14.trans (E5.trans E6))⟩
  have hne0 : ((o.length : Int) == 0) = false := by rw [beq_eq_false_iff_ne]; omega
  by_cases hc1 : 0 < c.length; rotate_left
  · have hc0 : c = [] := List.length_eq_zero_iff.1 (by omega)
    subst hc0
    clear hc1 HDF
    go_wp2_with fail; refine (HP1.out _ (Ext.refl _)).mono ?_; rintro e w2 ⟨s2, c2, rfl, R2, E2⟩
    go_wp2_with fail; refine (HP2.out _ E2).mono ?_; rintro e w3 ⟨s3, c3, rfl, R3, E3⟩
    go_wp2_with fail; refine (equalShares_yes s2 s3 o o.length c2 c3 _ (R2.sst.ext E3) R3.sst rfl (by omega)).mono ?_; rintro e w4 ⟨rfl, E4⟩
    have E24 := E3.trans E4
    have E14 := E2.trans E24
    go_wp2_with fail; refine (HP2.out _ E14).mono ?_; rintro e w5 ⟨s5, c5, rfl, R5, E5⟩
    go_wp2_with fail; refine (equalShares_yes s2 s5 o o.length c2 c5 _ (R2.sst.ext (E24.trans E5)) R5.sst rfl (by omega)).mono ?_; rintro e w6 ⟨rfl, E6⟩
    go_wp2
    go_ret
    exact ⟨rfl, E1.trans (E14.trans (E5.trans E6))⟩
  have hcn : ((c.length : Int) == 0) = false := by rw [beq_eq_false_iff_ne]; omega
  have ho8 : ¬ (8 : Int) < (o.length : Int) := by omega
  by_cases hco : o.length < c.length
  · have hcoi : (o.length : Int) < (c.length : Int) := by omega
    clear HDF
    go_wp2_with fail; refine (HP1.out _ (Ext.refl _)).mono ?_; rintro e w2 ⟨s2, c2, rfl, R2, E2⟩
    go_wp2_with fail; refine (HP2.out _ E2).mono ?_; rintro e w3 ⟨s3, c3, rfl, R3, E3⟩
    go_wp2_with fail; refine (equalShares_yes s2 s3 o o.length c2 c3 _ (R2.sst.ext E3) R3.sst rfl (by omega)).mono ?_; rintro e w4 ⟨rfl, E4⟩
    have E24 := E3.trans E4
    have E14 := E2.trans E24
    go_wp2_with fail; refine (HP2.out _ E14).mono ?_; rintro e w5 ⟨s5, c5, rfl, R5, E5⟩
    go_wp2_with fail; refine (equalShares_yes s2 s5 o o.length c2 c5 _ (R2.sst.ext (E24.trans E5)) R5.sst rfl (by omega)).mono ?_; rintro e w6 ⟨rfl, E6⟩
    go_wp2
    go_ret
    exact ⟨rfl, E1.trans (E14.trans (E5.trans E6))⟩
  have hcoi : ¬ (o.length : Int) < (c.length : Int) := by omega
  obtain ⟨hox, h8, hv, hr, hg⟩ := HDF.out h0
  have hlc : ¬ o.length < c.length := hco
  obtain ⟨hpt, hos⟩ := de_more hv hr hg hc1 (by omega) (by omega)
  have HPT := hide hpt
  have HOS := hide hos
  clear hv hr hg hox hpt hos
  have HPL : Hid ((ptR o).length = o.length) := hide (by rw [HPT.out]; simp; omega)
  have HPK := hide (fun k => more_at c (o.length - c.length) k)
  rw [← HPT.out] at HPK
  obtain ⟨b0, hb0⟩ : ∃ b, b = c.getD 0 0 := ⟨_, rfl⟩
  rw [← hb0] at HOS
  have HB0 := hide hb0
  clear hb0
  have hzz : ((b0 : Int) == b0) = true := by simp
  go_wp2_with fail; refine (HP1.out _ (Ext.refl _)).mono ?_; rintro e w2 ⟨s2, c2, rfl, R2, E2⟩
  go_wp2_with fail; refine (HP2.out _ E2).mono ?_; rintro e w3 ⟨s3, c3, rfl, R3, E3⟩
  go_wp2_with fail; refine (equalShares_yes s2 s3 o o.length c2 c3 _ (R2.sst.ext E3) R3.sst rfl (by omega)).mono ?_; rintro e w4 ⟨rfl, E4⟩
  have E24 := E3.trans E4
  have E14 := E2.trans E24
  have HR2 := hide (R2.sst.ext E24)
  clear R2 R3
  have HCP := hide (implPT s2 c2 o.length o _ HR2.out rfl (by omega))
  have HCO := hide (fun w5 (e : Ext w4 w5) => implOS s2 c2 o.length o w5 (HR2.out.ext e) rfl (by omega))
  rw [HOS.out] at HCO
  have hp8 := ptR_len o
  obtain ⟨P, hP⟩ : ∃ P, P = ptR o := ⟨_, rfl⟩; rw [← hP] at HCP HPL HPK hp8
  clear hP HPT HOS
  go_wp2_with fail; refine (HCP.out).mono ?_; rintro e w5 ⟨s5, c5, rfl, R5, hb5⟩
  have E5 := Ext.of hb5; clear hb5
  have HLP := hide R5.lst
  clear R5
  go_wp2
  go_loopw [7] (fun i wr => ∃ k : Nat, k ≤ P.length ∧ i = .int .i64 k ∧ Ext w5 wr) (fun i _ => P.length - (intOf i).toNat)
  case atStart => exact ⟨0, Nat.zero_le _, rfl, Ext.refl _⟩
  case round =>
    obtain ⟨k, hk, rfl, hE⟩ := hrel
    have hE4 := E5.trans hE
    by_cases hlt : k < P.length
    · have hki : (k : Int) < (P.length : Int) := by omega
      obtain ⟨gp, op, rfl, hgp, cp⟩ := (HLP.out.ext hE).at hlt
      by_cases hkc : k < c.length
      · have hkci : (k : Int) < (c.length : Int) := by omega
        obtain ⟨gc, oc, rfl, hgc, qc⟩ := (HLC.out.ext (E14.trans hE4)).at hkc
        rw [HPK.out k, if_pos hkc] at cp
        obtain ⟨y, hy⟩ : ∃ y, y = c.getD k 0 := ⟨_, rfl⟩; rw [← hy] at cp qc
        have hyy : ((y : Int) != y) = false := by simp
        clear hy
        go_wp2
        go_roundw
        case rel => exact ⟨k + 1, by omega, by go_num, hE⟩
        case measure => (first | (simp [intOf]; done) | (simp [intOf]; omega))
      · have hkci : decide ((k : Int) < (c.length : Int)) = false := decide_eq_false (by omega)
        rw [HPK.out k, if_neg hkc] at cp
        go_wp2
        go_roundw
        case rel => exact ⟨k + 1, by omega, by go_num, hE⟩
        case measure => (first | (simp [intOf]; done) | (simp [intOf]; omega))
    · have hki : decide ((k : Int) < (P.length : Int)) = false := decide_eq_false (by omega)
      obtain ⟨gc, oc, rfl, hgc, qc⟩ := (HLC.out.ext (E14.trans hE4)).at hc1
      rw [← HB0.out, Nat.add_zero] at qc
      have rc := cell_regrown qc
      clear qc
      go_wp2
      refine wp_region_quiet_below (by kernel_rfl) (by kernel_rfl) ?_
      repeat (go_big_quiet_step ((first | (go_at_call 35; exact Ret.quiet (HCO.out _ (hE4.trans (below_regrown _ _ _)))))))
      refine wpQuiet_nil ?_; intro w9 hq; have E9 := Ext.class hq; clear hq
      go_wp2
      go_ret
      exact ⟨rfl, E1.trans (E14.trans (hE4.trans E9))⟩
end Go.Proofs.Ytgmhodmgbhpdaab
