/- Chapter 3: numbers of orders: contracts of the program and of the model. -/
import Derived.Test.YtgmhodmgbhpdaadRank1
namespace Go.Proofs.Ytgmhodmgbhpdaad
open Go.ChangeShapes Go.WideShapes Go.ChangeAt Go.RowKit Go.Joins Go.Sort
set_option linter.unusedVariables false

theorem mns_castO {s k : Nat} (h : 2 ^ k ≤ s) : (s : Int) - (2 : Int) ^ k = ((mns s k : Nat) : Int) := by unfold mns; rw [Int.ofNat_sub h, pow_cast]
theorem full_castO (n : Nat) : fullI n = ((2 ^ n - 1 : Nat) : Int) := by
  have := Nat.two_pow_pos n
  rw [Int.ofNat_sub (by omega), pow_cast]; rfl
set_option maxHeartbeats 1000000 in
theorem implRank (sa : Option Addr) (cap : Nat) (l : List Int) (w : World) (h : Lst w sa l) (hl : l.length ≤ 2000000) (hcap : l.length ≤ cap) :
    Calls Try.prog 24 #[.slice sa l.length cap] w (Ret (.int .i64 (rnk l)) w) := by
  have H := hide h; clear h
  by_cases hv : vo l = true
  · by_cases h8 : l.length ≤ 8
    · have HF := hide (rnk_yes ⟨hv, h8⟩)
      have HRB := hide (fun c hc => Nat.le_trans (Nat.le_of_add_right_le (rk_bd hv c hc)) (fac_bd _ h8))
      have HS : Hid (∀ c, c < l.length → ∃ (m b : Nat) (M : List Int), l.getD c 0 = (m : Int) ∧ m < l.length ∧ b < l.length - c ∧ M.length ≤ 20 ∧ Hid (∀ w, Calls Try.prog 46 #[.int .i64 (lft l c : Nat)] w (RetList M w)) ∧ Hid (plc M (m : Int) = (b : Int)) ∧ 2 ^ m ≤ lft l c ∧ lft l c ≤ 256 ∧ Hid (mns (lft l c) m = lft l (c + 1)) ∧ Hid (rkI l (c + 1) = rkI l c + b * fac (l.length - 1 - c))) := by
        intro c hc
        obtain ⟨m, hm, hml⟩ := vo_at hv hc
        obtain ⟨p1, p2, p3⟩ := bfr_plc hv hc
        have hlt := lft_lt hv c (by omega)
        have h256 : (2 : Nat) ^ l.length ≤ 256 := pow_le (b := 8) h8
        have hle : lft l c ≤ 256 := Nat.le_trans (Nat.le_of_lt hlt) h256
        refine ⟨m, bfr l c, mems (lft l c), hm, hml, p3, mems_len _, fun w => implListOf _ w (Nat.le_trans hle (by omega)), ?_, Nat.ge_two_pow_of_testBit (lft_in hv hc hm), hle, ?_, rfl⟩
        · rw [← hm]; exact p1
        · show _ = mns (lft l c) (l.getD c 0).toNat; rw [hm, Int.toNat_natCast]
      have HFU := hide (full_castO l.length)
      have h256 : 2 ^ l.length - 1 ≤ 256 := Nat.le_trans (Nat.sub_le _ _) (pow_le (b := 8) h8)
      have HL0 : Hid (2 ^ l.length - 1 = lft l 0) := hide rfl
      have HFC := hide (fun w => implFullSet l.length w (by omega))
      rw [HFU.out] at HFC
      obtain ⟨q0, hq0⟩ : ∃ q0, q0 = 2 ^ l.length - 1 := ⟨_, rfl⟩; rw [← hq0] at HFC HL0 h256
      clear hq0
      go_enter Try.func24, Try.ntmps24
      go_wp2_with fail; refine (Same.eqB (implVO _ _ _ _ H.out hl hcap) hv).mono ?_; rintro e w' ⟨rfl, rfl⟩
      go_wp2_with fail; refine (HFC.out _).mono ?_; rintro e w' ⟨rfl, rfl⟩
      have HV := hide hv; clear hv
      go_wp2
      go_loopw [3, 4, 21] (fun u v i wr => ∃ c r q : Nat, c ≤ l.length ∧ i = .int .i64 c ∧ u = .int .i64 r ∧ v = .int .i64 q ∧ Hid (r = rkI l c) ∧ r ≤ 40320 ∧ Hid (q = lft l c) ∧ q ≤ 256 ∧ Ext w wr) (fun _ _ i _ => l.length - (intOf i).toNat)
      case atStart => exact ⟨0, 0, q0, Nat.zero_le _, rfl, rfl, rfl, rfl, by omega, HL0, h256, Ext.refl _⟩
      case round =>
        obtain ⟨c, r, q, hc, rfl, rfl, rfl, HR, hr, HQ, hq, hE⟩ := hrel
        by_cases hlt : c < l.length
        · obtain ⟨g, off, rfl, hg, c1⟩ := (H.out.ext hE).at hlt
          obtain ⟨m, b, M, hm, hml, hb, hM, HM, HP, h2m, _, HN, HK⟩ := HS.out c hlt
          rw [hm] at c1
          rw [← HQ.out] at HM h2m HN
          have hb8 : b ≤ 8 := by omega
          have hm8 : m ≤ 12 := by omega
          have hf := fI_bd (x := (l.length : Int) - 1 - (c : Int)) (by omega)
          have HFV := hide (show fI ((l.length : Int) - 1 - (c : Int)) = (fac (l.length - 1 - c) : Int) by
            unfold fI; rw [show ((l.length : Int) - 1 - (c : Int)).toNat = l.length - 1 - c by omega])
          have HFO := hide (fun w => implOrders ((l.length : Int) - 1 - (c : Int)) w (by omega) (by omega))
          have hbf := prod_bd (m := (b : Int)) (p := fI ((l.length : Int) - 1 - (c : Int))) (a := 8) (b := 40320) (by omega) (by omega) hf.1 hf.2
          have hrb := HRB.out (c + 1) (by omega)
          have HK2 := hide (show (r : Int) + (b : Int) * fI ((l.length : Int) - 1 - (c : Int)) = ((rkI l (c + 1) : Nat) : Int) by
            rw [HFV.out, HK.out, HR.out]; push_cast; rfl)
          obtain ⟨f, hf0⟩ : ∃ f, f = fI ((l.length : Int) - 1 - (c : Int)) := ⟨_, rfl⟩; rw [← hf0] at hf HFO hbf HK2
          have hp2 := pow_bd (m := m) hm8
          have HMC := hide (mns_castO h2m)
          have hq2 : mns q m ≤ 256 := Nat.le_trans (Nat.sub_le _ _) hq
          obtain ⟨r2, hr2⟩ : ∃ r2, r2 = rkI l (c + 1) := ⟨_, rfl⟩; rw [← hr2] at HK2 hrb
          have HR2 := hide hr2; clear hr2
          clear hf0 hm HFV h2m
          go_wp2_with fail; refine (HM.out _).mono ?_; rintro e w2 ⟨s2, c2, rfl, R2, hb2⟩
          have E2 := hE.trans (Ext.of hb2)
          have L2 := hide R2.lst
          clear hb2 R2
          go_wp2_with fail
          refine (Same.ret (implPlaceOf s2 c2 M.length M (m : Int) _ L2.out rfl (by omega))).mono ?_
          rintro e w3 ⟨rfl, E3⟩
          rw [HP.out]
          go_wp2_with fail
          refine (HFO.out _).mono ?_
          rintro e w' ⟨rfl, rfl⟩
          have E := E2.trans E3
          clear E2 E3
          go_wp2
          go_roundw
          case rel => exact ⟨c + 1, r2, mns q m, by omega, by go_num, by rw [← HK2.out], by rw [← HMC.out], HR2.out, hrb, HN.out, hq2, E⟩
          case measure => simp [intOf]; omega
        · obtain rfl : c = l.length := by omega
          go_wp2
          go_ret
          exact Ret.int (by rw [HF.out, HR.out]) hE
    · have HF := hide (rnk_no (l := l) fun h => h8 h.2)
      have hl12 := (vo_facts hv).1.2
      go_enter Try.func24, Try.ntmps24
      go_wp2_with fail; refine (Same.eqB (implVO _ _ _ _ H.out hl hcap) hv).mono ?_; rintro e w' ⟨rfl, rfl⟩
      go_wp2
      go_ret
      exact Ret.int (by rw [HF.out]) (Ext.refl _)
  · have HF := hide (rnk_no (l := l) fun h => hv h.1)
    rw [Bool.not_eq_true] at hv
    go_enter Try.func24, Try.ntmps24
    go_wp2_with fail; refine (Same.eqB (implVO _ _ _ _ H.out hl hcap) hv).mono ?_; rintro e w' ⟨rfl, rfl⟩
    go_wp2
    go_ret
    exact Ret.int (by rw [HF.out]) (Ext.refl _)
end Go.Proofs.Ytgmhodmgbhpdaad
