/- Chapter 2: the walk of the law of all who win, at drawn arguments. -/
import Derived.Test.YtjdfdikifiljjabLawW
import Derived.Test.YtjdfdikifiljjabDrawE
namespace Go.Proofs.Ytjdfdikifiljjab
open Go.ChangeShapes Go.WideShapes Go.ChangeAt Go.RowKit Go.Joins Go.Sort
set_option linter.unusedVariables false

set_option maxRecDepth 100000 in
set_option maxHeartbeats 2000000 in
theorem walkFnLeastCoalitionsAll (w : World) (sa : Option Addr) (len cap : Nat) (h : Code w sa len cap) (hl : len ≤ maxLen) :
    Calls Try.prog 9 #[.slice sa len cap] w fun e w' => e = .returned (.bool true) ∧ Below w.heap.size w w' := by
  have hl' := hl
  unfold maxLen at hl'
  by_cases hbig : 1048576 < len
  · clear h hl
    go_enter Try.func9, Try.ntmps9
    go_wp2
    go_ret
    exact ⟨rfl, Below.refl _ _⟩
  · go_enter Try.func9, Try.ntmps9
    go_wp2_with fail
    refine (dDrawWins sa len cap w h hl).mono ?_
    rintro e w1 ⟨sb, cb, l, need, sm, cm, m, rfl, hR, l1, l2, hx, n1, n2, hM, hml, E1⟩
    have HL := hide hR.lst
    have X1 := Box.new w1 #[.slice sb l.length cb, .int .i64 need] 28
    have EA := (Ext.refl w1).alloc (.cells #[.slice sb l.length cb, .int .i64 need] 28)
    obtain ⟨c0, c1, _, _⟩ := X1.two
    clear h hl hl' hbig
    have HM := hide hM.lst
    have hmc := hM.cap
    clear hR hM hx
    have CS := hide fun w h1 h2 => specWins sb cb l need sm cm m w h1 (by omega) h2 (by omega) hmc
    have CI := hide fun w h1 h2 => implWins sb cb l need sm cm m w h1 (by omega) h2 (by omega) hmc
    have HD := hide (fun h h2 => lc_all (l := l) (need := need) (m := m) h h2)
    have HNO := hide (show vmB m l.length = false → winsB l need m = false from fun h => by
      rw [← Bool.not_eq_true]; intro h2; rw [(winsB_iff.1 h2).2.1] at h; cases h)
    obtain ⟨P, hP⟩ : ∃ P, P = winsB l need m := ⟨_, rfl⟩
    rw [← hP] at CS CI HD HNO
    clear hP
    have hPP : (P != P) = false := by simp
    have hPE : (P == P) = true := by simp
    go_wp2_with fail; refine (CI.out _ (HL.out.ext EA) (HM.out.ext EA)).mono ?_; rintro e w2 ⟨rfl, E2⟩
    clear c0 c1
    obtain ⟨c0, c1, _, _⟩ := (X1.keep E2).two
    go_wp2_with fail; refine (CS.out _ (HL.out.ext (EA.trans E2)) (HM.out.ext (EA.trans E2))).mono ?_; rintro e w3 ⟨rfl, E3⟩
    clear c0 c1
    have X3 := X1.keep (E2.trans E3)
    have E13 := EA.trans (E2.trans E3)
    obtain ⟨c0, c1, _, _⟩ := X3.two
    by_cases hs : Go.Proofs.Ytjdfdikifiljjab.sb l need = true
    · obtain ⟨hv, h8⟩ := sb_iff.1 hs
      have t8 : decide ((8 : Int) < (l.length : Int)) = false := decide_eq_false (by omega)
      have HDD := hide (HD.out hs)
      go_wp2_with fail; refine (Ret.eqB (implValidBody sb cb l need _ (HL.out.ext E13) (by omega)) hv).mono ?_; rintro e w4 ⟨rfl, E4⟩
      have X4 := X3.keep E4
      have E14 := E13.trans E4
      clear hs c0 c1
      obtain ⟨c0, c1, _, _⟩ := X4.two
      go_wp2
      clear c0 c1
      go_loopw [6] (fun i wr => ∃ k : Nat, k ≤ m.length ∧ i = .int .i64 k ∧ Hid (vmB (m.take k) l.length = true) ∧ Ext w4 wr) (fun i _ => m.length - (intOf i).toNat)
      case atStart => exact ⟨0, Nat.zero_le _, rfl, (show vmB ([] : List Int) l.length = true from vmB_iff.2 ⟨fun x hx => by simp at hx, List.nodup_nil⟩), Ext.refl _⟩
      case round =>
        obtain ⟨k, hk, rfl, HV, hE⟩ := hrel
        have EX := E14.trans hE
        have XR := X4.keep hE
        by_cases hlt : k < m.length
        · have HM3 := hide (HM.out.ext EX)
          obtain ⟨gm, om, rfl, hgm, ex⟩ := HM3.out.at hlt
          obtain ⟨r0, r1⟩ := XR.reads (Ext.refl wr)
          have HST := hide fun h0 h1 h2 => vm_step (l := m) (k := k) (n := l.length) hlt HV.out h0 h1 h2
          have HOUT := hide (fun h => vm_out (l := m) (k := k) (n := l.length) hlt h)
          have HTW := hide (fun h => vm_twice (l := m) (k := k) (n := l.length) hlt h)
          have hki : (k : Int) < (m.length : Int) := by omega
          have hkc : (k : Int) ≤ (cm : Int) := by omega
          obtain ⟨t, ht⟩ : ∃ t, t = decide (m.getD k 0 ∈ m.take k) := ⟨_, rfl⟩
          have CT := hide fun d os => isIn_any (some ⟨gm, om, none⟩) cm k (m.take k) (m.getD k 0) (grow (redrawn wr d) os) ((HM3.out.ext (below_regrown _ _ _)).take k) (by rw [List.length_take]; omega) (by omega)
          have HNI := hide (show t = false → m.getD k 0 ∉ m.take k from fun h => of_decide_eq_false (by rw [← ht]; exact h))
          have HYI := hide (show t = true → m.getD k 0 ∈ m.take k from fun h => of_decide_eq_true (by rw [← ht]; exact h))
          rw [← ht] at CT
          obtain ⟨x, hx⟩ : ∃ x, x = m.getD k 0 := ⟨_, rfl⟩; rw [← hx] at ex HST CT HNI HYI HOUT HTW
          clear hx ht
          have rx := cell_regrown ex
          by_cases h0 : x < 0
          · have t0 : decide (x < 0) = true := decide_eq_true h0
            have hP := HNO.out (HOUT.out (by omega))
            clear h0
            go_wp2
            refine wp_region_quiet_below (by kernel_rfl) (by kernel_rfl) ?_
            repeat (go_big_quiet_step (fail))
            refine wpQuiet_nil ?_; intro w9 hq; have E9 := Ext.class hq; clear hq
            go_wp2
            go_ret
            exact ⟨ret_bool (by first | rfl | (rw [hP]; rfl)), E1.trans (EX.trans E9)⟩
          · have t0 : decide (x < 0) = false := decide_eq_false h0
            by_cases h1 : (l.length : Int) ≤ x
            · have t1 : decide ((l.length : Int) ≤ x) = true := decide_eq_true h1
              have hP := HNO.out (HOUT.out (by omega))
              clear h0 h1
              go_wp2
              refine wp_region_quiet_below (by kernel_rfl) (by kernel_rfl) ?_
              repeat (go_big_quiet_step (fail))
              refine wpQuiet_nil ?_; intro w9 hq; have E9 := Ext.class hq; clear hq
              go_wp2
              go_ret
              exact ⟨ret_bool (by first | rfl | (rw [hP]; rfl)), E1.trans (EX.trans E9)⟩
            · have t1 : decide ((l.length : Int) ≤ x) = false := decide_eq_false h1
              cases t with
              | true =>
                have hP := HNO.out (HTW.out (HYI.out rfl))
                clear h0 h1
                go_wp2
                refine wp_region_quiet_below (by kernel_rfl) (by kernel_rfl) ?_
                repeat (go_big_quiet_step ((first | (go_at_call 45; exact Same.quiet (CT.out _ _)))))
                refine wpQuiet_nil ?_; intro w9 hq; have E9 := Ext.class hq; clear hq
                go_wp2
                go_ret
                exact ⟨ret_bool (by first | rfl | (rw [hP]; rfl)), E1.trans (EX.trans E9)⟩
              | false =>
                have HV2 := hide (HST.out (by omega) (by omega) (HNI.out rfl))
                clear h0 h1
                go_wp2
                refine wp_region_quiet_below (by kernel_rfl) (by kernel_rfl) ?_
                repeat (go_big_quiet_step ((first | (go_at_call 45; exact Same.quiet (CT.out _ _)))))
                refine wpQuiet_nil ?_; intro w9 hq; have E9 := Ext.class hq; clear hq
                go_wp2
                go_roundw
                case rel => exact ⟨k + 1, by omega, by go_num, HV2, hE.trans E9⟩
                case measure => simp [intOf]; omega
        · obtain rfl : k = m.length := by omega
          have hvm : vmB m l.length = true := by have := HV.out; rwa [List.take_length] at this
          have HW := hide (HDD.out hvm)
          obtain ⟨q1, q2, q3⟩ := lcL_bd l need
          obtain ⟨c0, c1, _, _⟩ := XR.two
          clear hvm HV
          go_wp2_with fail; refine (implLeastC sb cb l need _ (HL.out.ext EX) (by omega)).mono ?_; rintro e w6 ⟨sL, cL, hsL, rfl, ML, E6⟩
          have HMM := hide ML.mst
          have HQ := hide q2
          obtain ⟨LC, hLC⟩ : ∃ LC, LC = lcL l need := ⟨_, rfl⟩; rw [← hLC] at HMM HW q1 HQ ⊢
          have HM6 := hide (HM.out.ext (EX.trans E6))
          clear c0 c1 ML q2 q3 hLC
          go_wp2
          go_loopw [8, 9] (fun f j wx => ∃ (q : Nat) (fb : Bool), q ≤ LC.length ∧ j = .int .i64 q ∧ f = .bool fb ∧ Hid (fb = decide (∃ t : Nat, t < q ∧ ∀ x ∈ LC.getD t [], x ∈ m)) ∧ Ext w6 wx) (fun _ j _ => LC.length - (intOf j).toNat)
          case atStart => exact ⟨0, false, Nat.zero_le _, rfl, rfl, (show false = decide _ from (decide_eq_false fun ⟨t, ht, _⟩ => absurd ht (Nat.not_lt_zero _)).symm), Ext.refl _⟩
          case round =>
            obtain ⟨q, fb, hq, rfl, rfl, HF, hE9⟩ := hrel
            by_cases hlq : q < LC.length
            · cases fb with
              | true =>
                have HF2 := hide (show true = decide (∃ t : Nat, t < q + 1 ∧ ∀ x ∈ LC.getD t [], x ∈ m) from (decide_eq_true (by
                  obtain ⟨t, h1, h2⟩ := of_decide_eq_true HF.out.symm
                  exact ⟨t, by omega, h2⟩)).symm)
                go_wp2
                go_roundw
                case rel => exact ⟨q + 1, true, by omega, by go_num, rfl, HF2, hE9⟩
                case measure => simp [intOf]; omega
              | false =>
                obtain ⟨g, off, si, ci, rfl, hg, e1, L1, _⟩ := (HMM.out.ext hE9).at hlq
                have hn := HQ.out q hlq
                have HF2 := hide (show ∀ b, b = decide (∀ x ∈ LC.getD q [], x ∈ m) → b = decide (∃ t : Nat, t < q + 1 ∧ ∀ x ∈ LC.getD t [], x ∈ m) from fun b hb => by
                  rw [hb, Bool.eq_iff_iff, decide_eq_true_eq, decide_eq_true_eq]
                  constructor
                  · intro h; exact ⟨q, by omega, h⟩
                  · rintro ⟨t, ht, h⟩
                    by_cases e : t = q
                    · rw [e] at h; exact h
                    · exact absurd ⟨t, by omega, h⟩ (of_decide_eq_false HF.out.symm))
                have C := within_any si sm ci cm (LC.getD q []).length m.length (LC.getD q []) m _ L1 (HM6.out.ext hE9) rfl rfl (by omega) (by omega)
                obtain ⟨b, hb⟩ : ∃ b, b = decide (∀ x ∈ LC.getD q [], x ∈ m) := ⟨_, rfl⟩
                have HF3 := hide (HF2.out b hb)
                rw [← hb] at C
                obtain ⟨x, hx⟩ : ∃ x, x = LC.getD q [] := ⟨_, rfl⟩; rw [← hx] at e1 C
                clear hx hb HF2 L1 hn
                go_wp2_with fail; refine (C).mono ?_; rintro e w' ⟨rfl, rfl⟩
                go_wp2
                go_roundw
                case rel => exact ⟨q + 1, b, by omega, by go_num, rfl, HF3, hE9⟩
                case measure => simp [intOf]; omega
            · obtain rfl : q = LC.length := by omega
              have hfb : P = fb := by
                rw [HF.out, HW.out, Bool.eq_iff_iff, decide_eq_true_eq, decide_eq_true_eq]
                constructor
                · rintro ⟨c, hc, h⟩
                  obtain ⟨i, hi, e⟩ := mem_getDL hc
                  exact ⟨i, hi, by rw [e]; exact h⟩
                · rintro ⟨t, ht, h⟩; exact ⟨_, getD_memL ht, h⟩
              have hPf : (P == fb) = true := by rw [hfb]; simp
              clear hfb
              go_wp2
              go_ret
              exact ⟨rfl, E1.trans ((EX.trans E6).trans hE9)⟩
    · by_cases hv : vb l need = true
      · have h8 : ¬ l.length ≤ 8 := fun h => hs (sb_iff.2 ⟨hv, h⟩)
        have t8 : decide ((8 : Int) < (l.length : Int)) = true := decide_eq_true (by omega)
        clear hs h8
        go_wp2_with fail; refine (Ret.eqB (implValidBody sb cb l need _ (HL.out.ext E13) (by omega)) hv).mono ?_; rintro e w4 ⟨rfl, E4⟩
        clear c0 c1
        obtain ⟨c0, c1, _, _⟩ := (X3.keep E4).two
        go_wp2_with fail; refine (CS.out _ (HL.out.ext (E13.trans E4)) (HM.out.ext (E13.trans E4))).mono ?_; rintro e w5 ⟨rfl, E5⟩
        go_wp2
        go_ret
        exact ⟨rfl, E1.trans ((E13.trans E4).trans E5)⟩
      · rw [Bool.not_eq_true] at hv
        clear hs
        go_wp2_with fail; refine (Ret.eqB (implValidBody sb cb l need _ (HL.out.ext E13) (by omega)) hv).mono ?_; rintro e w4 ⟨rfl, E4⟩
        clear c0 c1
        obtain ⟨c0, c1, _, _⟩ := (X3.keep E4).two
        go_wp2_with fail; refine (CS.out _ (HL.out.ext (E13.trans E4)) (HM.out.ext (E13.trans E4))).mono ?_; rintro e w5 ⟨rfl, E5⟩
        go_wp2
        go_ret
        exact ⟨rfl, E1.trans ((E13.trans E4).trans E5)⟩
end Go.Proofs.Ytjdfdikifiljjab
