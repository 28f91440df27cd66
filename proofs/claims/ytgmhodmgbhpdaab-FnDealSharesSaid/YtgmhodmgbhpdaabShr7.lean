/- Chapter 4: shares that fit together: contracts of the program and of the model. -/
import Derived.Test.YtgmhodmgbhpdaabShr6
namespace Go.Proofs.Ytgmhodmgbhpdaab
open Go.ChangeShapes Go.WideShapes Go.ChangeAt Go.RowKit Go.Joins Go.Sort
set_option linter.unusedVariables false

set_option maxHeartbeats 400000 in
theorem specFT (sa : Option Addr) (cap n : Nat) (ll : List Sh) (need : Int) (w : World) (h : Sst w sa ll) (hn : ll.length = n) (hl : n ≤ 2000000) (hcap : n ≤ cap) :
    Calls Try.prog 17 #[.slice sa n cap, .int .i64 need] w (Ret (.bool (ftR ll need)) w) := by
  subst hn
  have H := hide h; clear h
  by_cases hv : svOk ll
  · have hvb := svB_yes hv
    have h12 := hv.len
    by_cases h8 : inr need 1 8 = true
    · have h82 := inr_iff.1 h8
      obtain ⟨m, rfl⟩ := Int.eq_ofNat_of_zero_le (show 0 ≤ need by omega)
      have HG := hide hv.gd
      have HF := hide (ftR_ok hv (show 1 ≤ m by omega) (by omega))
      clear hv
      go_enter Try.func17, Try.ntmps17
      go_wp2_with fail; refine (Ret.eqB (specvS _ _ _ ll _ H.out rfl hl) hvb).mono ?_; rintro e w1 ⟨rfl, E1⟩
      go_wp2_with fail; refine (Same.eqB (specInr _ _ _ _) h8).mono ?_; rintro e w' ⟨rfl, rfl⟩
      go_wp2_with fail; refine (specFits sa cap _ m ll _ (H.out.ext E1) rfl (by omega) hcap HG.out (by omega)).mono ?_; rintro e w2 ⟨rfl, E2⟩
      have E12 := E1.trans E2
      clear h82 h8
      go_wp2
      go_ret
      exact Ret.bool HF.out.symm E12
    · have HF := hide (ftR_no (ll := ll) (need := need) fun h => h8 (inr_iff.2 ⟨h.2.1, h.2.2.1⟩))
      rw [Bool.not_eq_true] at h8
      clear hv
      go_enter Try.func17, Try.ntmps17
      go_wp2_with fail; refine (Ret.eqB (specvS _ _ _ ll _ H.out rfl hl) hvb).mono ?_; rintro e w1 ⟨rfl, E1⟩
      go_wp2_with fail; refine (Same.eqB (specInr _ _ _ _) h8).mono ?_; rintro e w' ⟨rfl, rfl⟩
      go_wp2
      go_ret
      exact Ret.bool HF.out.symm E1
  · have HF := hide (ftR_no (ll := ll) (need := need) fun h => hv h.1)
    have hvb := svB_no hv
    clear hv
    go_enter Try.func17, Try.ntmps17
    go_wp2_with fail; refine (Ret.eqB (specvS _ _ _ ll _ H.out rfl hl) hvb).mono ?_; rintro e w1 ⟨rfl, E1⟩
    go_wp2
    go_ret
    exact Ret.bool HF.out.symm E1
theorem gt_parts {q : List Int} {ll : List Sh} {m : Nat} (h : isT (ll.take m) q) (hk : ∀ j, j < (ll.drop m).length → (251 : Int) ∣ ev q ((ll.drop m).getD j Sh.z).x - ((ll.drop m).getD j Sh.z).y) : gt q ll := fun s hs => by
  rw [← List.take_append_drop m ll, List.mem_append] at hs
  rcases hs with hs | hs
  · exact h.2.2 s hs
  · exact gt_at hk s hs
set_option maxHeartbeats 1600000 in
theorem implFT (sa : Option Addr) (cap n : Nat) (ll : List Sh) (need : Int) (w : World) (h : Sst w sa ll) (hn : ll.length = n) (hl : n ≤ 2000000) (hcap : n ≤ cap) :
    Calls Try.prog 16 #[.slice sa n cap, .int .i64 need] w (Ret (.bool (ftR ll need)) w) := by
  subst hn
  have H := hide h; clear h
  by_cases hv : svOk ll
  · have hvb := svB_yes hv
    have h12 := hv.len
    by_cases h8 : inr need 1 8 = true
    · have h82 := inr_iff.1 h8
      obtain ⟨m, rfl⟩ := Int.eq_ofNat_of_zero_le (show 0 ≤ need by omega)
      have HG := hide hv.gd
      have HF := hide (ftR_ok hv (show 1 ≤ m by omega) (by omega))
      clear hv
      by_cases hlm : ll.length ≤ m
      · have hle : (ll.length : Int) ≤ (m : Int) := by omega
        have HB := hide (show ftR ll m = true by rw [HF.out]; exact ftB_yes (fit_few (thr_ex HG.out) hlm))
        clear h82 hlm
        go_enter Try.func16, Try.ntmps16
        go_wp2_with fail; refine (Ret.eqB (implVS _ _ _ ll _ H.out rfl hl) hvb).mono ?_; rintro e w1 ⟨rfl, E1⟩
        go_wp2_with fail; refine (Same.eqB (implInr _ _ _ _) h8).mono ?_; rintro e w' ⟨rfl, rfl⟩
        go_wp2
        go_ret
        exact Ret.bool HB.out.symm E1
      · have hle : (m : Int) < (ll.length : Int) := by omega
        have hle2 : (m : Int) ≤ (cap : Int) := by omega
        have hmc : m ≠ cap := by omega
        have hmc2 : m < cap := by omega
        have hdl : (ll.drop m).length = ll.length - m := by rw [List.length_drop]
        have HTL := hide (show (ll.take m).length = m by rw [List.length_take]; omega)
        have HIF := hide (fun q (h : isT (ll.take m) q) => fits_iff (n := m) HG.out (by rw [Nat.min_eq_left (by omega)]; exact h))
        have HGP := hide (fun q (h : isT (ll.take m) q) => gt_parts h)
        have HGT := hide (HG.out.sub (List.take_sublist m ll))
        have HGD := hide (HG.out.sub (List.drop_sublist m ll))
        have HMD := hide (fun q (h : gt q ll) (s : Sh) (hs : s ∈ ll.drop m) => h s (List.mem_of_mem_drop hs))
        have HS := hide (H.out.take m)
        obtain ⟨g, off, rfl, hg, HSp⟩ := H.out.spot (show 0 < ll.length by omega)
        have HSD := hide (HSp.drop m)
        clear HSp
        obtain ⟨D, hD⟩ : ∃ D, D = ll.drop m := ⟨_, rfl⟩; rw [← hD] at hdl HGP HGD HMD HSD
        have hDl : D.length ≤ 12 := by omega
        have HDL := hide hdl
        clear h82 hlm hD hdl
        go_enter Try.func16, Try.ntmps16
        go_wp2_with fail; refine (Ret.eqB (implVS _ _ _ ll _ H.out rfl hl) hvb).mono ?_; rintro e w1 ⟨rfl, E1⟩
        go_wp2_with fail; refine (Same.eqB (implInr _ _ _ _) h8).mono ?_; rintro e w' ⟨rfl, rfl⟩
        go_wp2_with fail; refine (implThr (some ⟨g, off, none⟩) cap m (ll.take m) _ (HS.out.ext E1) HTL.out (by omega) HGT.out).mono ?_; rintro e w2 ⟨q, sq, cq, rfl, HQ, Rq, E2⟩
        have E12 := E1.trans E2
        have HI := hide (HIF.out q HQ)
        have HP := hide (HGP.out q HQ)
        have HM := hide (HMD.out q)
        have HQR := hide HQ.2.1
        have hql : q.length ≤ 1000 := by rw [HQ.1, HTL.out]; omega
        have HLQ := hide Rq.lst
        clear HQ Rq HIF HGP HMD HS HGT E1 E2
        go_wp2
        rw [← HDL.out]
        go_loopw [28] (fun i wr => ∃ k : Nat, k ≤ D.length ∧ i = .int .i64 k ∧ Hid (∀ j, j < k → (251 : Int) ∣ ev q (D.getD j Sh.z).x - (D.getD j Sh.z).y) ∧ Ext w2 wr) (fun i _ => D.length - (intOf i).toNat)
        case atStart => exact ⟨0, Nat.zero_le _, rfl, (show ∀ j, j < 0 → _ from fun j hj => absurd hj (Nat.not_lt_zero _)), Ext.refl _⟩
        case round =>
          obtain ⟨k, hk, rfl, HK, hE⟩ := hrel
          by_cases hlt : k < D.length
          · have hki : (k : Int) < (D.length : Int) := by omega
            obtain ⟨g2, off2, e2, hg2, q0, q1⟩ := (HSD.out.ext (E12.trans hE)).at hlt
            cases e2
            have hx := HGD.out.x k
            have hy := HGD.out.y k
            have HPV := hide (pv_is (q := q) (x := (D.getD k Sh.z).x) hy.1 hy.2)
            have HKS := hide (fun h => gtk_succ HK.out h)
            have HKN := hide (fun (h : gt q ll) => HM.out h _ (sh_mem hlt))
            obtain ⟨x, hxx⟩ : ∃ x, x = (D.getD k Sh.z).x := ⟨_, rfl⟩; rw [← hxx] at q0 hx HPV HKS HKN
            obtain ⟨y, hyy⟩ : ∃ y, y = (D.getD k Sh.z).y := ⟨_, rfl⟩; rw [← hyy] at q1 hy HPV HKS HKN
            clear hxx hyy
            have EA := hE.alloc (.cells #[.int .i64 x, .int .i64 y] 40)
            have X1 := Box.new wr #[.int .i64 x, .int .i64 y] 40
            obtain ⟨r0, r1⟩ := X1.reads (Ext.refl _)
            have HV := hide (fun w3 (e : Ext w2 w3) => implVal sq cq q.length q x w3 (HLQ.out.ext e) rfl (by omega) HQR.out hx.1 hx.2)
            obtain ⟨p, hp⟩ : ∃ p, p = pv q x := ⟨_, rfl⟩; rw [← hp] at HPV HV
            by_cases he : p = y
            · have HK2 := hide (HKS.out (HPV.out.1 he))
              have hd : ((p : Int) != y) = false := by rw [he]; simp
              have HE := hide he; clear he
              clear hp HKS HKN HPV X1
              go_wp2
              refine wp_region_quiet_below (by kernel_rfl) (by kernel_rfl) ?_
              repeat (go_big_quiet_step ((first | (go_at_call 53; exact Same.quiet (HV.out _ (EA.trans (below_regrown _ _ _)))))))
              refine wpQuiet_nil ?_; intro w9 hq; have E9 := Ext.class hq; clear hq
              clear r0 r1
              go_wp2
              go_roundw
              case rel => exact ⟨k + 1, by omega, by go_num, HK2, EA.trans E9⟩
              case measure => (first | (simp [intOf]; done) | (simp [intOf]; omega))
            · have HB := hide (show ftR ll m = false by rw [HF.out]; exact ftB_no fun h => he (HPV.out.2 (HKN.out (HI.out.1 h))))
              have hd : ((p : Int) != y) = true := by rw [bne_iff_ne]; exact he
              clear hp HKS HKN HPV he X1
              go_wp2
              refine wp_region_quiet_below (by kernel_rfl) (by kernel_rfl) ?_
              repeat (go_big_quiet_step ((first | (go_at_call 53; exact Same.quiet (HV.out _ (EA.trans (below_regrown _ _ _)))))))
              refine wpQuiet_nil ?_; intro w9 hq; have E9 := Ext.class hq; clear hq
              clear r0 r1
              go_wp2
              go_ret
              exact Ret.bool (by rw [HB.out]) ((E12.trans EA).trans E9)
          · obtain rfl : k = D.length := by omega
            have HB := hide (show ftR ll m = true by rw [HF.out]; exact ftB_yes (HI.out.2 (HP.out HK.out)))
            go_wp2
            go_ret
            exact Ret.bool (by rw [HB.out]) (E12.trans hE)
    · have HF := hide (ftR_no (ll := ll) (need := need) fun h => h8 (inr_iff.2 ⟨h.2.1, h.2.2.1⟩))
      rw [Bool.not_eq_true] at h8
      clear hv
      go_enter Try.func16, Try.ntmps16
      go_wp2_with fail; refine (Ret.eqB (implVS _ _ _ ll _ H.out rfl hl) hvb).mono ?_; rintro e w1 ⟨rfl, E1⟩
      go_wp2_with fail; refine (Same.eqB (implInr _ _ _ _) h8).mono ?_; rintro e w' ⟨rfl, rfl⟩
      go_wp2
      go_ret
      exact Ret.bool HF.out.symm E1
  · have HF := hide (ftR_no (ll := ll) (need := need) fun h => hv h.1)
    have hvb := svB_no hv
    clear hv
    go_enter Try.func16, Try.ntmps16
    go_wp2_with fail; refine (Ret.eqB (implVS _ _ _ ll _ H.out rfl hl) hvb).mono ?_; rintro e w1 ⟨rfl, E1⟩
    go_wp2
    go_ret
    exact Ret.bool HF.out.symm E1
end Go.Proofs.Ytgmhodmgbhpdaab
