/- Chapter 3: orders that reveals draw: plain numbers, contracts of the program and of the model. -/
import Derived.Test.YtgmhodmgbhpdaadRev6
import Derived.Test.YtgmhodmgbhpdaadRev5
import Derived.Test.YtgmhodmgbhpdaadOrdC
namespace Go.Proofs.Ytgmhodmgbhpdaad
open Go.ChangeShapes Go.WideShapes Go.ChangeAt Go.RowKit Go.Joins Go.Sort
set_option linter.unusedVariables false

def drOk (ll : List Rv) (m : Int) : Prop := rvsOk ll ∧ 1 ≤ m ∧ m ≤ 8
open Classical in
/-- the order that reveals draw -/
noncomputable def drL (ll : List Rv) (m : Int) : List Int := if drOk ll m then ordL (smK ll ll.length % fI m) m else []
theorem drL_yes {ll : List Rv} {m : Int} (h : drOk ll m) : drL ll m = ordL (smK ll ll.length % fI m) m := if_pos h
theorem drL_no {ll : List Rv} {m : Int} (h : ¬ drOk ll m) : drL ll m = [] := if_neg h
theorem fI_pos (m : Int) : 1 ≤ fI m := by
  unfold fI; have := fac_pos m.toNat; omega
theorem drL_len (ll : List Rv) (m : Int) : (drL ll m).length ≤ 8 := by
  by_cases h : drOk ll m
  · rw [drL_yes h]; exact ordL_len _ _
  · rw [drL_no h]; exact Nat.zero_le _
theorem drL_draw {ll : List Rv} {m : Int} (h1 : 1 ≤ m) (h8 : m ≤ 8) : ordL (dwC ll (fI m)) m = drL ll m := by
  have hf := fI_pos m
  have hb := (fI_bd (x := m) h8).2
  by_cases h : rvsOk ll
  · rw [dwC_yes ⟨h, hf, by omega⟩, drL_yes ⟨h, h1, h8⟩]
  · rw [dwC_no fun h2 => h h2.1, drL_no fun h2 => h h2.1, ordL_no fun h2 => by have := h2.2.1; omega]
set_option maxHeartbeats 400000 in
theorem implDrO (sa : Option Addr) (cap : Nat) (ll : List Rv) (m : Int) (w : World) (h : Rst w sa ll) (hl : ll.length ≤ 2000000) :
    Calls Try.prog 22 #[.slice sa ll.length cap, .int .i64 m] w (RetList (drL ll m) w) := by
  have H := hide h; clear h
  by_cases hm : inr m 1 8 = true
  · have hm2 := inr_iff.1 hm
    have HG := hide (drL_draw (ll := ll) hm2.1 hm2.2)
    have HF := hide (fun w2 => implOrders m w2 (by omega) hm2.2)
    have HD := hide (implDraw sa cap ll (fI m) w H.out hl)
    unfold DwRet at HD
    obtain ⟨f, hf⟩ : ∃ f, f = fI m := ⟨_, rfl⟩; rw [← hf] at HF HD HG
    obtain ⟨q, hq⟩ : ∃ q, q = dwC ll f := ⟨_, rfl⟩; rw [← hq] at HD HG
    obtain ⟨z, hz⟩ : ∃ z, z = dwS ll f := ⟨_, rfl⟩; rw [← hz] at HD
    have HO := hide (fun w2 => implOrd q m w2)
    rw [HG.out] at HO
    clear hf hq hz HG
    go_enter Try.func22, Try.ntmps22
    go_wp2_with fail; refine (Same.eqB (implInr _ _ _ _) hm).mono ?_; rintro e w' ⟨rfl, rfl⟩
    go_wp2_with fail; refine (HF.out _).mono ?_; rintro e w' ⟨rfl, rfl⟩
    go_wp2_with fail; refine (HD.out).mono ?_; rintro e w2 ⟨rfl, E2⟩
    go_wp2_with fail; refine (HO.out _).mono ?_; rintro e w3 ⟨s3, c3, rfl, R3, hb3⟩
    have E3 := E2.trans (Ext.of hb3)
    have R4 := R3.le E2.size
    clear hb3
    go_wp2
    go_ret
    exact ⟨s3, c3, rfl, R4, E3⟩
  · have HG := hide (drL_no (ll := ll) (m := m) fun h => hm (inr_iff.2 h.2))
    rw [Bool.not_eq_true] at hm
    go_enter Try.func22, Try.ntmps22
    go_wp2_with fail; refine (Same.eqB (implInr _ _ _ _) hm).mono ?_; rintro e w' ⟨rfl, rfl⟩
    go_wp2
    go_ret
    exact RetList.of (base := 0) HG.out (Row.nil _ _) (Ext.refl _)
set_option maxHeartbeats 400000 in
theorem specDrO (sa : Option Addr) (cap : Nat) (ll : List Rv) (m : Int) (w : World) (h : Rst w sa ll) (hl : ll.length ≤ 2000000) :
    Calls Try.prog 23 #[.slice sa ll.length cap, .int .i64 m] w (RetList (drL ll m) w) := by
  have H := hide h; clear h
  have HR := hide (specRvs sa cap ll w H.out hl)
  by_cases hv : rvsOk ll
  · rw [rvB_yes hv] at HR
    by_cases hm : inr m 1 8 = true
    · have hm2 := inr_iff.1 hm
      have hok : drOk ll m := ⟨hv, hm2⟩
      have HF := hide (fun w2 => specFac m w2 (by omega) hm2.2)
      have HD := hide (specDraw sa cap ll 1 w H.out hl)
      unfold DwRet at HD
      rw [dwS_yes ⟨hv, by omega, by omega⟩] at HD
      have hb := smK_bd hv.2 ll.length (Nat.le_refl _)
      have h12 := hv.1
      have hf1 := fI_pos m
      have hf2 := (fI_bd (x := m) hm2.2).2
      have HO : Hid (∀ w2 : World, Calls Try.prog 42 #[.int .i64 (smK ll ll.length % fI m), .int .i64 m] w2 (RetList (drL ll m) w2)) := hide (fun w2 => by
        have q0 : 0 ≤ smK ll ll.length % fI m := Int.emod_nonneg _ (by omega)
        have q1 : smK ll ll.length % fI m < fI m := Int.emod_lt_of_pos _ (by omega)
        obtain ⟨mn, hmn⟩ := Int.eq_ofNat_of_zero_le (show 0 ≤ m by omega)
        obtain ⟨qn, hqn⟩ := Int.eq_ofNat_of_zero_le q0
        rw [drL_yes hok]
        rw [hqn] at q1 ⊢
        rw [hmn] at q1 ⊢
        have ho : oOk (qn : Int) (mn : Int) := ⟨by omega, by omega, by omega⟩
        obtain ⟨a, b, c⟩ := oOk_nat ho
        rw [ordL_yes ho]
        exact specOrdL qn mn w2 a b c)
      obtain ⟨S, hS⟩ : ∃ S, S = smK ll ll.length := ⟨_, rfl⟩; rw [← hS] at HD hb HO
      obtain ⟨z, hz⟩ : ∃ z, z = dwC ll 1 := ⟨_, rfl⟩; rw [← hz] at HD
      obtain ⟨f, hf⟩ : ∃ f, f = fI m := ⟨_, rfl⟩; rw [← hf] at HF HO hf1 hf2
      have hmod := hide (show S.tmod f = S % f from Int.tmod_eq_emod_of_nonneg hb.1)
      obtain ⟨q, hq⟩ : ∃ q, q = S % f := ⟨_, rfl⟩; rw [← hq] at HO hmod
      have hmd := hmod.out
      have HQ := hide hq; clear hq
      have hmd2 : S % f = q := HQ.out.symm
      have hfn : f ≠ 0 := by omega
      clear hS hz hf hok hv
      go_enter Try.func23, Try.ntmps23
      go_wp2_with fail; refine (HR.out).mono ?_; rintro e w' ⟨rfl, rfl⟩
      go_wp2_with fail; refine (Same.eqB (specInr _ _ _ _) hm).mono ?_; rintro e w' ⟨rfl, rfl⟩
      go_wp2_with fail; refine (HD.out).mono ?_; rintro e w2 ⟨rfl, E2⟩
      go_wp2_with fail; refine (HF.out _).mono ?_; rintro e w' ⟨rfl, rfl⟩
      go_wp2_with fail; refine (HO.out _).mono ?_; rintro e w3 ⟨s3, c3, rfl, R3, hb3⟩
      have E3 := E2.trans (Ext.of hb3)
      have R4 := R3.le E2.size
      clear hb3
      go_wp2
      go_ret
      exact ⟨s3, c3, rfl, R4, E3⟩
    · have HG := hide (drL_no (ll := ll) (m := m) fun h => hm (inr_iff.2 h.2))
      rw [Bool.not_eq_true] at hm
      clear hv
      go_enter Try.func23, Try.ntmps23
      go_wp2_with fail; refine (HR.out).mono ?_; rintro e w' ⟨rfl, rfl⟩
      go_wp2_with fail; refine (Same.eqB (specInr _ _ _ _) hm).mono ?_; rintro e w' ⟨rfl, rfl⟩
      go_wp2
      go_ret
      exact RetList.of (base := 0) HG.out (Row.nil _ _) (Ext.refl _)
  · have HG := hide (drL_no (ll := ll) (m := m) fun h => hv h.1)
    rw [rvB_no hv] at HR
    clear hv
    go_enter Try.func23, Try.ntmps23
    go_wp2_with fail; refine (HR.out).mono ?_; rintro e w' ⟨rfl, rfl⟩
    go_wp2
    go_ret
    exact RetList.of (base := 0) HG.out (Row.nil _ _) (Ext.refl _)
end Go.Proofs.Ytgmhodmgbhpdaad
