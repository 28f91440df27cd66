/- Chapter 4: the walks of the laws of shares that fit, of a wrong share, of added and refreshed shares, of a polynomial with a secret, at drawn arguments. -/
import Derived.Test.YtgmhodmgbhpdaabDrawN
import Derived.Test.YtgmhodmgbhpdaabShr8
import Derived.Test.YtgmhodmgbhpdaabShr10
import Derived.Test.YtgmhodmgbhpdaabShr11
import Derived.Test.YtgmhodmgbhpdaabLawK0
namespace Go.Proofs.Ytgmhodmgbhpdaab
open Go.ChangeShapes Go.WideShapes Go.ChangeAt Go.RowKit Go.Joins Go.Sort
set_option linter.unusedVariables false

set_option maxRecDepth 100000 in
set_option maxHeartbeats 1600000 in
theorem walkFnFitTogether (w : World) (sa : Option Addr) (len cap : Nat) (h : Code w sa len cap) (hl : len ≤ maxLen) :
    Calls Try.prog 3 #[.slice sa len cap] w fun e w' => e = .returned (.bool true) ∧ Below w.heap.size w w' := by
  have hl' := hl
  unfold maxLen at hl'
  by_cases hbig : 1048576 < len
  · clear h hl
    go_enter Try.func3, Try.ntmps3
    go_wp2
    go_ret
    exact ⟨rfl, Below.refl _ _⟩
  go_enter Try.func3, Try.ntmps3
  go_wp2_with fail
  refine (dDrawFitTogether sa len cap w h hl).mono ?_
  rintro e w1 ⟨sl, cl, l, need, rfl, R, nl, a0, a1, E1⟩
  clear h hl hl' hbig
  have hcap := R.cap
  have HL := hide R.sst
  clear R
  have HP1 := hide (fun w2 (e : Ext w1 w2) => implFT sl cl l.length l need w2 (HL.out.ext e) rfl (by omega) hcap)
  have HP2 := hide (fun w2 (e : Ext w1 w2) => specFT sl cl l.length l need w2 (HL.out.ext e) rfl (by omega) hcap)
  by_cases h0 : ftR l need = true
  · obtain ⟨hv, b0, b1, hf⟩ := ftR_iff.1 h0
    have HV := hide (fun i => ftR_iff.2 ⟨hv.sub (drp_sub l i), b0, b1, hf.sub (drp_sub l i)⟩)
    have HM := hide (fun (h8 : need + 1 ≤ 8) => ftR_iff.2 ⟨hv, by omega, h8, hf.more (show need.toNat ≤ (need + 1).toNat by omega)⟩)
    have HDL := hide (fun i (hi : i < l.length) => drp_len (ll := l) hi)
    rw [h0] at HP1 HP2
    clear hv hf h0
    go_wp2_with fail; refine (HP1.out _ (Ext.refl _)).mono ?_; rintro e w2 ⟨rfl, E2⟩
    go_wp2_with fail; refine (HP2.out _ E2).mono ?_; rintro e w3 ⟨rfl, E3⟩
    have E23 := E2.trans E3
    clear E2 E3
    go_wp2
    go_loopw [6] (fun i wr => ∃ k : Nat, k ≤ l.length ∧ i = .int .i64 k ∧ Ext w1 wr) (fun i _ => l.length - (intOf i).toNat)
    case atStart => exact ⟨0, Nat.zero_le _, rfl, E23⟩
    case round =>
      obtain ⟨k, hk, rfl, hE⟩ := hrel
      by_cases hlt : k < l.length
      · have hki : (k : Int) < (l.length : Int) := by omega
        go_wp2_with fail; refine (lawDrop sl cl l.length k l _ (HL.out.ext hE) rfl (by omega) hcap hlt).mono ?_; rintro e w4 ⟨s4, c4, rfl, R4, E4⟩
        have HR4 := hide R4.sst
        have hcp := R4.cap
        have hdl : (drp l k).length ≤ 8 := by rw [HDL.out k hlt]; omega
        have HVk := hide (HV.out k)
        obtain ⟨D, hD⟩ : ∃ D, D = drp l k := ⟨_, rfl⟩; rw [← hD] at HR4 hdl HVk hcp ⊢
        clear hD R4
        go_wp2_with fail; refine (Ret.eqB (implFT s4 c4 D.length D need _ HR4.out rfl (by omega) hcp) HVk.out).mono ?_; rintro e w5 ⟨rfl, E5⟩
        go_wp2
        go_roundw
        case rel => exact ⟨k + 1, by omega, by go_num, hE.trans (E4.trans E5)⟩
        case measure => (first | (simp [intOf]; done) | (simp [intOf]; omega))
      · have hki : decide ((k : Int) < (l.length : Int)) = false := decide_eq_false (by omega)
        by_cases h8 : need = 8
        · have hd : ((need : Int) == 8) = true := by rw [h8]; rfl
          go_wp2
          go_ret
          exact ⟨rfl, E1.trans hE⟩
        · have hd : ((need : Int) == 8) = false := by rw [beq_eq_false_iff_ne]; exact h8
          have HM2 := hide (HM.out (by omega))
          go_wp2_with fail; refine (Ret.eqB (implFT sl cl l.length l (need + 1) _ (HL.out.ext hE) rfl (by omega) hcap) HM2.out).mono ?_; rintro e w5 ⟨rfl, E5⟩
          go_wp2
          go_ret
          exact ⟨rfl, E1.trans (hE.trans E5)⟩
  · rw [Bool.not_eq_true] at h0
    rw [h0] at HP1 HP2
    clear h0
    go_wp2_with fail; refine (HP1.out _ (Ext.refl _)).mono ?_; rintro e w2 ⟨rfl, E2⟩
    go_wp2_with fail; refine (HP2.out _ E2).mono ?_; rintro e w3 ⟨rfl, E3⟩
    go_wp2_with fail; refine (HP2.out _ (E2.trans E3)).mono ?_; rintro e w4 ⟨rfl, E4⟩
    go_wp2
    go_ret
    exact ⟨rfl, E1.trans ((E2.trans E3).trans E4)⟩
set_option maxRecDepth 100000 in
set_option maxHeartbeats 1600000 in
theorem walkFnWrongShare (w : World) (sa : Option Addr) (len cap : Nat) (h : Code w sa len cap) (hl : len ≤ maxLen) :
    Calls Try.prog 5 #[.slice sa len cap] w fun e w' => e = .returned (.bool true) ∧ Below w.heap.size w w' := by
  have hl' := hl
  unfold maxLen at hl'
  by_cases hbig : 1048576 < len
  · clear h hl
    go_enter Try.func5, Try.ntmps5
    go_wp2
    go_ret
    exact ⟨rfl, Below.refl _ _⟩
  go_enter Try.func5, Try.ntmps5
  go_wp2_with fail
  refine (dDrawWrongShare sa len cap w h hl).mono ?_
  rintro e w1 ⟨sl, cl, l, need, rfl, R, nl, a0, a1, E1⟩
  clear h hl hl' hbig
  have hcap := R.cap
  have HL := hide R.sst
  clear R
  have HP1 := hide (fun w2 (e : Ext w1 w2) => implWS sl cl l.length l need w2 (HL.out.ext e) rfl (by omega) hcap)
  have HP2 := hide (fun w2 (e : Ext w1 w2) => specWS sl cl l.length l need w2 (HL.out.ext e) rfl (by omega) hcap)
  rcases wsR_bd l need with h0 | ⟨i, h0, hi, hfi, hv, b0, b1, b2, hnf⟩
  · rw [h0] at HP1 HP2
    clear h0
    go_wp2_with fail; refine (HP1.out _ (Ext.refl _)).mono ?_; rintro e w2 ⟨rfl, E2⟩
    go_wp2_with fail; refine (HP2.out _ E2).mono ?_; rintro e w3 ⟨rfl, E3⟩
    go_wp2_with fail; refine (HP2.out _ (E2.trans E3)).mono ?_; rintro e w4 ⟨rfl, E4⟩
    go_wp2
    go_ret
    exact ⟨rfl, E1.trans ((E2.trans E3).trans E4)⟩
  · rw [h0] at HP1 HP2
    have HY := hide (show ftR (drp l i) need = true from ftR_iff.2 ⟨hv.sub (drp_sub l i), b0, b1, hfi⟩)
    have HN := hide (fun j (hj : j < l.length) (e : j ≠ i) => (show ftR (drp l j) need = false from ftR_no fun h => hnf (one_wrong hv.gd (by omega) hj hi e h.2.2.2 hfi)))
    have HZ := hide (show ftR l need = false from ftR_no fun h => hnf h.2.2.2)
    have HDL := hide (fun i (hi : i < l.length) => drp_len (ll := l) hi)
    have hne : ((i : Int) != (i : Int)) = false := by simp
    have hlt0 : ¬ (i : Int) < 0 := by omega
    clear hv hfi hnf h0 b2
    go_wp2_with fail; refine (HP1.out _ (Ext.refl _)).mono ?_; rintro e w2 ⟨rfl, E2⟩
    go_wp2_with fail; refine (HP2.out _ E2).mono ?_; rintro e w3 ⟨rfl, E3⟩
    have E23 := E2.trans E3
    clear E2 E3
    go_wp2
    go_loopw [6] (fun j wr => ∃ k : Nat, k ≤ l.length ∧ j = .int .i64 k ∧ Ext w1 wr) (fun j _ => l.length - (intOf j).toNat)
    case atStart => exact ⟨0, Nat.zero_le _, rfl, E23⟩
    case round =>
      obtain ⟨k, hk, rfl, hE⟩ := hrel
      by_cases hlt : k < l.length
      · have hki : (k : Int) < (l.length : Int) := by omega
        go_wp2_with fail; refine (lawDrop sl cl l.length k l _ (HL.out.ext hE) rfl (by omega) hcap hlt).mono ?_; rintro e w4 ⟨s4, c4, rfl, R4, E4⟩
        have HR4 := hide R4.sst
        have hcp := R4.cap
        have hdl : (drp l k).length ≤ 8 := by rw [HDL.out k hlt]; omega
        by_cases hke : k = i
        · have HVk := hide (show ftR (drp l k) need = true by rw [hke]; exact HY.out)
          have hd : ((k : Int) == (i : Int)) = true := by rw [hke]; simp
          obtain ⟨D, hD⟩ : ∃ D, D = drp l k := ⟨_, rfl⟩; rw [← hD] at HR4 hdl HVk hcp ⊢
          have HKE := hide hke; clear hke
          clear hD R4
          go_wp2_with fail; refine (Ret.eqB (implFT s4 c4 D.length D need _ HR4.out rfl (by omega) hcp) HVk.out).mono ?_; rintro e w5 ⟨rfl, E5⟩
          go_wp2
          go_roundw
          case rel => exact ⟨k + 1, by omega, by go_num, hE.trans (E4.trans E5)⟩
          case measure => (first | (simp [intOf]; done) | (simp [intOf]; omega))
        · have HVk := hide (HN.out k hlt hke)
          have hd : ((k : Int) == (i : Int)) = false := by rw [beq_eq_false_iff_ne]; omega
          obtain ⟨D, hD⟩ : ∃ D, D = drp l k := ⟨_, rfl⟩; rw [← hD] at HR4 hdl HVk hcp ⊢
          clear hD R4 hke
          go_wp2_with fail; refine (Ret.eqB (implFT s4 c4 D.length D need _ HR4.out rfl (by omega) hcp) HVk.out).mono ?_; rintro e w5 ⟨rfl, E5⟩
          go_wp2
          go_roundw
          case rel => exact ⟨k + 1, by omega, by go_num, hE.trans (E4.trans E5)⟩
          case measure => (first | (simp [intOf]; done) | (simp [intOf]; omega))
      · have hki : decide ((k : Int) < (l.length : Int)) = false := decide_eq_false (by omega)
        go_wp2_with fail; refine (Ret.eqB (implFT sl cl l.length l need _ (HL.out.ext hE) rfl (by omega) hcap) HZ.out).mono ?_; rintro e w5 ⟨rfl, E5⟩
        go_wp2
        go_ret
        exact ⟨rfl, E1.trans (hE.trans E5)⟩
end Go.Proofs.Ytgmhodmgbhpdaab
