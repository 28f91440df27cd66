/- Chapter 3: orders of numbers: contracts of the program and of the model. -/
import Derived.Test.YtgmhodmgbhpdaadOrdA
import Derived.Test.YtgmhodmgbhpdaadRank2
namespace Go.Proofs.Ytgmhodmgbhpdaad
open Go.ChangeShapes Go.WideShapes Go.ChangeAt Go.RowKit Go.Joins Go.Sort
set_option linter.unusedVariables false

theorem fI_nat (n : Nat) : fI (n : Int) = (fac n : Int) := by unfold fI; rw [Int.toNat_natCast]
set_option maxRecDepth 100000 in
set_option maxHeartbeats 400000 in
theorem implOrd (n m : Int) (w : World) : Calls Try.prog 41 #[.int .i64 n, .int .i64 m] w (RetList (ordL n m) w) := by
  by_cases h1 : inr m 1 8 = true
  · have hm := inr_iff.1 h1
    by_cases h2 : inr n 0 (fI m - 1) = true
    · have hn := inr_iff.1 h2
      have hok : oOk n m := ⟨hm, hn⟩
      have hfm := fI_bd (x := m) hm.2
      obtain ⟨m, rfl⟩ := Int.eq_ofNat_of_zero_le (show 0 ≤ m by omega)
      obtain ⟨n, rfl⟩ := Int.eq_ofNat_of_zero_le hn.1
      obtain ⟨hm8, hm1, hnf⟩ := oOk_nat hok
      have HF := hide (ordL_yes hok)
      have HST := hide (fun c hc => @oSt_step m n hm8 hnf c hc)
      have HFA := hide (fun c hc => @oSt_facts m n hm8 hnf c hc)
      have HLS := hide (fun c => oLs_len m n c)
      have HNX : Hid (∀ c, oLs m n (c + 1) = oLs m n c ++ [oEl m n c]) := hide fun c => rfl
      have HFU := hide (full_castO m)
      have HFC := hide (fun w => implFullSet m w (by omega))
      rw [HFU.out] at HFC
      have h256 : 2 ^ m - 1 ≤ 256 := Nat.le_trans (Nat.sub_le _ _) (pow_le (b := 8) hm8)
      have HQ0 : Hid (2 ^ m - 1 = (oSt m n 0).1) := hide rfl
      have HR0 : Hid (n = (oSt m n 0).2) := hide rfl
      have hn4 : n ≤ 40320 := Nat.le_trans (Nat.le_of_lt hnf) (fac_bd m hm8)
      have HPAD : Hid (∀ c, c < m → ((oLs m n c ++ zeros (m - c)).set c (oEl m n c)) = oLs m n (c + 1) ++ zeros (m - (c + 1))) := hide fun c hc => by
        show _ = (oLs m n c ++ [oEl m n c]) ++ _
        rw [show m - c = (m - (c + 1)) + 1 by omega]
        show (oLs m n c ++ (0 :: zeros (m - (c + 1)))).set c _ = _
        rw [List.set_append_right (h := by rw [oLs_len]; exact Nat.le_refl _), oLs_len, Nat.sub_self, List.set_cons_zero, List.append_assoc]; rfl
      have HPL := hide (fun c (hc : c ≤ m) => show (oLs m n c ++ zeros (m - c)).length = m by rw [List.length_append, oLs_len, zeros_len]; omega)
      have HP0 : Hid (zeros m = oLs m n 0 ++ zeros (m - 0)) := hide rfl
      have HPE : Hid (oLs m n m ++ zeros (m - m) = oLs m n m) := hide (by rw [Nat.sub_self]; exact List.append_nil _)
      have hmk := run_makeInts m (by omega)
      have HOR := hide (fun w => implOrders (m : Int) w (by omega) (by omega))
      have A0 : Arr (w.alloc (.cells (ints (zeros m)) 3)) w.heap.size (oLs m n 0 ++ zeros (m - 0)) := by rw [← HP0.out]; exact Arr.new w (zeros m)
      have HA0 := hide A0; clear A0
      have EE0 := (Ext.refl w).alloc (.cells (ints (zeros m)) 3)
      obtain ⟨q0, hq0⟩ : ∃ q0, q0 = 2 ^ m - 1 := ⟨_, rfl⟩; rw [← hq0] at HFC HQ0 h256
      obtain ⟨fm, hfm0⟩ : ∃ fm, fm = fI (m : Int) := ⟨_, rfl⟩; rw [← hfm0] at HOR hfm h2
      clear hq0 hfm0 hok hn hnf
      go_enter Try.func41, Try.ntmps41
      go_wp2_with fail; refine (Same.eqB (implInr _ _ _ _) h1).mono ?_; rintro e w' ⟨rfl, rfl⟩
      go_wp2_with fail; refine (HOR.out _).mono ?_; rintro e w' ⟨rfl, rfl⟩
      go_wp2_with fail; refine (Same.eqB (implInr _ _ _ _) h2).mono ?_; rintro e w' ⟨rfl, rfl⟩
      go_wp2_with fail
      refine (HFC.out _).mono ?_
      rintro e w' ⟨rfl, rfl⟩
      go_wp2
      go_loopw [0, 6, 27] (fun a v i wr => ∃ c r q : Nat, c ≤ m ∧ i = .int .i64 c ∧ a = .int .i64 r ∧ v = .int .i64 q ∧ Hid (r = (oSt m n c).2) ∧ r ≤ 40320 ∧ Hid (q = (oSt m n c).1) ∧ q ≤ 256 ∧ Hid (Arr wr w.heap.size (oLs m n c ++ zeros (m - c))) ∧ Ext w wr) (fun _ _ i _ => m - (intOf i).toNat)
      case atStart => exact ⟨0, n, q0, Nat.zero_le _, rfl, rfl, rfl, HR0, hn4, HQ0, h256, HA0, EE0⟩
      case round =>
        clear hmk HA0 EE0
        obtain ⟨c, r, q, hc, rfl, rfl, rfl, HR, hr, HQ, hq, HA, hE⟩ := hrel
        by_cases hlt : c < m
        · have hx1 : (m : Int) - 1 - (c : Int) ≤ 8 := by omega
          have hx0 : -10 ≤ (m : Int) - 1 - (c : Int) := by omega
          have hxn : ((m : Int) - 1 - (c : Int)).toNat = m - 1 - c := by omega
          have hc8 : m - 1 - c ≤ 8 := by omega
          have hq6 : q ≤ 1000000 := by omega
          have hfb := fac_bd (m - 1 - c) hc8
          have hfp := fac_pos (m - 1 - c)
          have HFO := hide (fun w => implOrders ((m : Int) - 1 - (c : Int)) w hx0 hx1)
          have HFV := hide (show fI ((m : Int) - 1 - (c : Int)) = (fac (m - 1 - c) : Int) by unfold fI; rw [hxn])
          rw [HFV.out] at HFO
          have HM := hide (fun w => implListOf q w hq6)
          have HNXc := hide (HPAD.out c hlt)
          obtain ⟨k, x, hk, hkm, hx, hex, hxm, h2x, hs1, _, hs3⟩ := HST.out c hlt
          have hML := (HFA.out c hc).1
          rw [hex] at HNXc
          rw [← HR.out] at hk hs3
          rw [← HQ.out] at hx h2x hs1 hML
          clear hex
          have HMC := hide (mns_castO h2x)
          have HS1 := hide hs1.symm
          have HS3 := hide hs3.symm
          clear hs1 hs3 h2x
          obtain ⟨M, hM⟩ : ∃ M, M = mems q := ⟨_, rfl⟩; rw [← hM] at HM hx hML
          have HX := hide hx
          clear hx hM
          obtain ⟨f, hf0⟩ : ∃ f, f = fac (m - 1 - c) := ⟨_, rfl⟩; rw [← hf0] at hk HS3 HFO hfp hfb
          clear hf0
          have hM0 : 0 < M.length := by omega
          have hkM : k < M.length := by omega
          have hrm : r % f ≤ 40320 := Nat.le_trans (Nat.mod_le _ _) hr
          have hdk : ((r / f : Nat) : Int) = (k : Int) := congrArg _ hk
          have HDV2 := hide (show (r : Int) / (f : Int) = (k : Int) from (Int.natCast_ediv r f).symm.trans hdk)
          have HDV := hide (show (r : Int).tdiv (f : Int) = (k : Int) from (Int.tdiv_eq_ediv_of_nonneg (Int.natCast_nonneg _)).trans HDV2.out)
          clear hdk
          have hq2 : mns q x ≤ 256 := Nat.le_trans (Nat.sub_le _ _) hq
          have hp2 := pow_bd (m := x) (by omega)
          obtain ⟨q2, hq20⟩ : ∃ q2, q2 = mns q x := ⟨_, rfl⟩; rw [← hq20] at HMC HS1 hq2
          obtain ⟨r2, hr20⟩ : ∃ r2, r2 = r % f := ⟨_, rfl⟩; rw [← hr20] at HS3 hrm
          have HR20 := hide hr20; clear hr20
          clear hq20 HFV hk hx0 hx1 hxn
          have HML := hide hML; clear hML
          go_wp2_with fail
          refine (HFO.out _).mono ?_
          rintro e w' ⟨rfl, rfl⟩
          have hdv := HDV.out
          have hdv2 := HDV2.out
          have hne : (f : Int) ≠ 0 := by omega
          have hne2 : f ≠ 0 := by omega
          have hkMi : (k : Int) < (M.length : Int) := by omega
          have hk0 : (0 : Int) ≤ (k : Int) := by omega
          have hrw : IntKind.i64.wrap (k : Int) = (k : Int) := IntWalk.i64_in _ (by omega)
          have HK := hide (show ∀ w', Ext wr w' → True ∧ True from fun _ _ => ⟨trivial, trivial⟩)
          go_wp2
          refine wp_region_held_drew (S := (fun _ => True ∧ True)) (by kernel_rfl) (by first | exact HK.out _ ((Ext.refl wr).drew)) (fun hHeld => ?_)
          refine wpAnyH_take (i := 0) (oi := _) (v := ?_) rfl (by kernel_rfl) (by kernel_rfl) (by kernel_rfl) (fun _ _ _ h => h) (Or.inl ⟨by rfl, ?_⟩) (by assumption) ?_
          rotate_left
          · (intro w hSw; (try dsimp only at hSw); (try obtain ⟨hS0, hS1⟩ := hSw); go_simp; (try with_reducible rfl))
          (try simp only [List.getElem_toArray, List.getElem_cons_zero, Act.put, List.setIfInBounds_toArray, List.set_cons_zero, List.set_cons_succ])
          refine wpAnyH_take (i := 2) (oi := _) (v := ?_) rfl (by kernel_rfl) (by kernel_rfl) (by kernel_rfl) (fun _ _ _ h => h) (Or.inl ⟨by rfl, ?_⟩) (by assumption) ?_
          rotate_left
          · (intro w hSw; (try dsimp only at hSw); (try obtain ⟨hS0, hS1⟩ := hSw); go_simp; (try with_reducible rfl))
          (try simp only [List.getElem_toArray, List.getElem_cons_succ, List.getElem_cons_zero, Act.put, List.setIfInBounds_toArray, List.set_cons_zero, List.set_cons_succ])
          refine wpAnyH_take (i := 3) (oi := _) (v := ?_) rfl (by kernel_rfl) (by kernel_rfl) (by kernel_rfl) (fun _ _ _ h => h) (Or.inl ⟨by rfl, ?_⟩) (by assumption) ?_
          rotate_left
          · (intro w hSw; (try dsimp only at hSw); (try obtain ⟨hS0, hS1⟩ := hSw); go_simp; (try with_reducible rfl))
          (try simp only [List.getElem_toArray, List.getElem_cons_succ, List.getElem_cons_zero, Act.put, List.setIfInBounds_toArray, List.set_cons_zero, List.set_cons_succ])
          refine wpAnyH_take (i := 4) (oi := _) (v := ?_) rfl (by kernel_rfl) (by kernel_rfl) (by kernel_rfl) (fun _ _ _ h => h) (Or.inl ⟨by rfl, ?_⟩) (by assumption) ?_
          rotate_left
          · (intro w hSw; (try dsimp only at hSw); (try obtain ⟨hS0, hS1⟩ := hSw); go_simp; (try with_reducible rfl))
          (try simp only [List.getElem_toArray, List.getElem_cons_succ, List.getElem_cons_zero, Act.put, List.setIfInBounds_toArray, List.set_cons_zero, List.set_cons_succ])
          refine wpAnyH_ready (rs := [1]) (by kernel_rfl) (by simp) ?_
          refine AllReadyH.cons (o := _) rfl (fun K hK => ?_) AllReadyH.nil
          go_simp
          refine (HM.out _).mono ?_; rintro e w7 ⟨s7, c7, rfl, R7, hb7⟩
          refine hK.out _ _ (HK.out _ (((Ext.refl wr).drew).trans (Ext.of hb7))) (fun hHeld => ?_); clear hK K
          (try simp only [List.getElem_toArray, List.getElem_cons_succ, List.getElem_cons_zero, Act.put, List.setIfInBounds_toArray, List.set_cons_zero, List.set_cons_succ])
          obtain ⟨b7, rfl, _, _, _, hc7⟩ := R7.spot hM0
          have e7 := hc7 k hkM
          rw [HX.out] at e7
          clear hc7
          refine wpAnyH_take (i := 5) (oi := _) (v := ?_) rfl (by kernel_rfl) (by kernel_rfl) (by kernel_rfl) (fun _ _ _ h => h) (Or.inl ⟨by rfl, ?_⟩) (by assumption) ?_
          rotate_left
          · (intro w hSw; (try dsimp only at hSw); (try obtain ⟨hS0, hS1⟩ := hSw); go_simp; (try with_reducible rfl))
          (try simp only [List.getElem_toArray, List.getElem_cons_succ, List.getElem_cons_zero, Act.put, List.setIfInBounds_toArray, List.set_cons_zero, List.set_cons_succ])
          refine wpAnyH_ready (rs := [6]) (by kernel_rfl) (by simp) ?_
          refine AllReadyH.cons (o := _) rfl (fun K hK => ?_) AllReadyH.nil
          go_simp
          refine hK.out _ _ (HK.out _ (((Ext.refl wr).drew).trans (Ext.of hb7))) (fun hHeld => ?_); clear hK K
          (try simp only [List.getElem_toArray, List.getElem_cons_succ, List.getElem_cons_zero, Act.put, List.setIfInBounds_toArray, List.set_cons_zero, List.set_cons_succ])
          refine wpAnyH_ready (rs := [7]) (by kernel_rfl) (by simp) ?_
          refine AllReadyH.cons (o := _) rfl (fun K hK => ?_) AllReadyH.nil
          go_simp
          refine hK.out _ _ (HK.out _ (((Ext.refl wr).drew).trans (Ext.of hb7))) (fun hHeld => ?_); clear hK K
          (try simp only [List.getElem_toArray, List.getElem_cons_succ, List.getElem_cons_zero, Act.put, List.setIfInBounds_toArray, List.set_cons_zero, List.set_cons_succ])
          refine wpAnyH_done (by kernel_rfl) ?_ _
          have E7 := ((Ext.refl wr).drew).trans (Ext.of hb7)
          clear hdv hdv2 hne hne2 hkMi hk0 hrw HK
          have A7 := HA.out.keep E7
          have E17 := hE.trans E7
          have cv := A7.cell (j := c) (by rw [HPL.out c hc]; exact hlt)
          have fv := A7.free c
          obtain ⟨y, hy⟩ : ∃ y, y = (oLs m n c ++ zeros (m - c)).getD c 0 := ⟨_, rfl⟩; rw [← hy] at cv
          have HA7 := hide A7; clear A7
          clear hy e7 R7 hb7
          have hfz : (0 : Int) < (f : Int) := by omega
          have hr0 : (0 : Int) ≤ (r : Int) := by omega
          go_wp2
          go_roundw
          case rel => exact ⟨c + 1, r2, q2, by omega, by go_num, by rw [HR20.out]; go_num, by rw [← HMC.out], HS3.out, hrm, HS1.out, hq2, (show Arr _ _ _ by rw [← HNXc.out]; exact HA7.out.set c _), E17.setCell (Nat.le_refl _) _⟩
          case measure => simp [intOf]; omega
        · obtain rfl : c = m := by omega
          have hA2 := HA.out
          rw [HPE.out, ← HF.out] at hA2
          have HL := hide (show (ordL (n : Int) (c : Int)).length = c by rw [HF.out, HLS.out])
          go_wp2
          go_ret
          refine ⟨some ⟨w.heap.size, 0, none⟩, c, by rw [HL.out]; rfl, ?_, hE⟩
          have := hA2.row (base := w.heap.size) (Nat.le_refl _) (by rw [HL.out]; omega)
          rwa [HL.out] at this
    · have HF := hide (ordL_no (n := n) (m := m) fun h => h2 (inr_iff.2 h.2))
      rw [Bool.not_eq_true] at h2
      have hfm := fI_bd (x := m) hm.2
      have HOR := hide (fun w => implOrders m w (by omega) hm.2)
      obtain ⟨fm, hfm0⟩ : ∃ fm, fm = fI m := ⟨_, rfl⟩; rw [← hfm0] at HOR hfm h2
      clear hfm0
      go_enter Try.func41, Try.ntmps41
      go_wp2_with fail; refine (Same.eqB (implInr _ _ _ _) h1).mono ?_; rintro e w' ⟨rfl, rfl⟩
      go_wp2_with fail; refine (HOR.out _).mono ?_; rintro e w' ⟨rfl, rfl⟩
      go_wp2_with fail; refine (Same.eqB (implInr _ _ _ _) h2).mono ?_; rintro e w' ⟨rfl, rfl⟩
      go_wp2
      go_ret
      exact RetList.of (base := 0) HF.out (Row.nil _ _) (Ext.refl _)
  · have HF := hide (ordL_no (n := n) (m := m) fun h => h1 (inr_iff.2 h.1))
    rw [Bool.not_eq_true] at h1
    go_enter Try.func41, Try.ntmps41
    go_wp2_with fail; refine (Same.eqB (implInr _ _ _ _) h1).mono ?_; rintro e w' ⟨rfl, rfl⟩
    go_wp2
    go_ret
    exact RetList.of (base := 0) HF.out (Row.nil _ _) (Ext.refl _)
end Go.Proofs.Ytgmhodmgbhpdaad
