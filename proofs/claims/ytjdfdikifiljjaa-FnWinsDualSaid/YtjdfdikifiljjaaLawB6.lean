/- Chapter 2: the walk of the law of winning in the dual body, at drawn arguments. -/
import Derived.Test.YtjdfdikifiljjaaLawB3
namespace Go.Proofs.Ytjdfdikifiljjaa
open Go.ChangeShapes Go.WideShapes Go.ChangeAt Go.RowKit Go.Joins Go.Sort
set_option linter.unusedVariables false

set_option maxRecDepth 100000 in
set_option maxHeartbeats 1000000 in
theorem walkFnWinsDual (w : World) (sa : Option Addr) (len cap : Nat) (h : Code w sa len cap) (hl : len ≤ maxLen) :
    Calls Try.prog 16 #[.slice sa len cap] w fun e w' => e = .returned (.bool true) ∧ Below w.heap.size w w' := by
  have hl' := hl
  unfold maxLen at hl'
  by_cases hbig : 1048576 < len
  · clear h hl
    go_enter Try.func16, Try.ntmps16
    go_wp2
    go_ret
    exact ⟨rfl, Below.refl _ _⟩
  · go_enter Try.func16, Try.ntmps16
    go_wp2_with fail
    refine (dDrawWins sa len cap w h hl).mono ?_
    rintro e w1 ⟨sb, cb, l, need, sm, cm, m, rfl, hR, l1, l2, hx, n1, n2, hM, hml, E1⟩
    have HL := hide hR.lst
    have X1 := Box.new w1 #[.slice sb l.length cb, .int .i64 need] 27
    have EA := (Ext.refl w1).alloc (.cells #[.slice sb l.length cb, .int .i64 need] 27)
    obtain ⟨c0, c1, _, _⟩ := X1.two
    clear h hl hl' hbig
    have HM := hide hM.lst
    have hmc := hM.cap
    clear hR hM hx
    have CS := hide fun w h1 h2 => specWins sb cb l need sm cm m w h1 (by omega) h2 (by omega) hmc
    have CI := hide fun w h1 h2 => implWins sb cb l need sm cm m w h1 (by omega) h2 (by omega) hmc
    have HD := hide (wins_dual (l := l) (need := need) (m := m))
    have HNV := hide (show ¬ vb l need = true → winsB l need m = false from fun h => by rw [← Bool.not_eq_true]; exact fun h2 => h (winsB_iff.1 h2).1)
    obtain ⟨P, hP⟩ : ∃ P, P = winsB l need m := ⟨_, rfl⟩
    rw [← hP] at CS CI HD HNV
    clear hP
    have hPP : (P != P) = false := by simp
    have hPE : (P == P) = true := by simp
    have hPN : (P != !P) = true := by cases P <;> rfl
    go_wp2_with fail; refine (CI.out _ (HL.out.ext EA) (HM.out.ext EA)).mono ?_; rintro e w2 ⟨rfl, E2⟩
    clear c0 c1
    obtain ⟨c0, c1, _, _⟩ := (X1.keep E2).two
    go_wp2_with fail; refine (CS.out _ (HL.out.ext (EA.trans E2)) (HM.out.ext (EA.trans E2))).mono ?_; rintro e w3 ⟨rfl, E3⟩
    clear c0 c1
    have X3 := X1.keep (E2.trans E3)
    have E13 := EA.trans (E2.trans E3)
    obtain ⟨c0, c1, _, _⟩ := X3.two
    by_cases hv : vb l need = true
    · go_wp2_with fail; refine (Ret.eqB (implValidBody sb cb l need _ (HL.out.ext E13) (by omega)) hv).mono ?_; rintro e w4 ⟨rfl, E4⟩
      have X4 := X3.keep E4
      have E14 := E13.trans E4
      obtain ⟨dn, hdn⟩ : ∃ dn, dn = tot l - need + 1 := ⟨_, rfl⟩
      have Hdn := hide hdn
      have HDD := hide fun h => HD.out hv h
      rw [← hdn] at HDD
      have hv0 := hide hv
      clear hdn c0 c1
      go_wp2
      go_loopw [6] (fun i wr => ∃ k : Nat, k ≤ m.length ∧ i = .int .i64 k ∧ Hid (vmB (m.take k) l.length = true) ∧ Ext w4 wr) (fun i _ => m.length - (intOf i).toNat)
      case atStart => exact ⟨0, Nat.zero_le _, rfl, (show vmB ([] : List Int) l.length = true from vmB_iff.2 ⟨fun x hx => by simp at hx, List.nodup_nil⟩), Ext.refl _⟩
      case round =>
        obtain ⟨k, hk, rfl, HV, hE⟩ := hrel
        have EX := E14.trans hE
        have XR := X4.keep hE
        by_cases hlt : k < m.length
        · have HM3 := hide (HM.out.ext EX)
          obtain ⟨gm, om, rfl, hgm, ex⟩ := HM3.out.at hlt
          obtain ⟨r0, r1⟩ := XR.reads (Ext.refl wr)
          have HST := hide fun h0 h1 h2 => vm_step (l := m) (k := k) (n := l.length) hlt HV.out h0 h1 h2
          have hki : (k : Int) < (m.length : Int) := by omega
          have hkc : (k : Int) ≤ (cm : Int) := by omega
          obtain ⟨t, ht⟩ : ∃ t, t = decide (m.getD k 0 ∈ m.take k) := ⟨_, rfl⟩
          have CT := hide fun d os => isIn_any (some ⟨gm, om, none⟩) cm k (m.take k) (m.getD k 0) (grow (redrawn wr d) os) ((HM3.out.ext (below_regrown _ _ _)).take k) (by rw [List.length_take]; omega) (by omega)
          have HNI := hide (show t = false → m.getD k 0 ∉ m.take k from fun h => of_decide_eq_false (by rw [← ht]; exact h))
          rw [← ht] at CT
          obtain ⟨x, hx⟩ : ∃ x, x = m.getD k 0 := ⟨_, rfl⟩; rw [← hx] at ex HST CT HNI
          clear hx ht
          have rx := cell_regrown ex
          by_cases h0 : x < 0
          · have t0 : decide (x < 0) = true := decide_eq_true h0
            clear h0
            go_wp2
            refine wp_region_quiet_below (by kernel_rfl) (by kernel_rfl) ?_
            repeat (go_big_quiet_step (fail))
            refine wpQuiet_nil ?_; intro w9 hq; have E9 := Ext.class hq; clear hq
            go_wp2
            go_ret
            exact ⟨rfl, E1.trans (EX.trans E9)⟩
          · have t0 : decide (x < 0) = false := decide_eq_false h0
            by_cases h1 : (l.length : Int) ≤ x
            · have t1 : decide ((l.length : Int) ≤ x) = true := decide_eq_true h1
              clear h0 h1
              go_wp2
              refine wp_region_quiet_below (by kernel_rfl) (by kernel_rfl) ?_
              repeat (go_big_quiet_step (fail))
              refine wpQuiet_nil ?_; intro w9 hq; have E9 := Ext.class hq; clear hq
              go_wp2
              go_ret
              exact ⟨rfl, E1.trans (EX.trans E9)⟩
            · have t1 : decide ((l.length : Int) ≤ x) = false := decide_eq_false h1
              cases t with
              | true =>
                clear h0 h1
                go_wp2
                refine wp_region_quiet_below (by kernel_rfl) (by kernel_rfl) ?_
                repeat (go_big_quiet_step ((first | (go_at_call 46; exact Same.quiet (CT.out _ _)))))
                refine wpQuiet_nil ?_; intro w9 hq; have E9 := Ext.class hq; clear hq
                go_wp2
                go_ret
                exact ⟨rfl, E1.trans (EX.trans E9)⟩
              | false =>
                have HV2 := hide (HST.out (by omega) (by omega) (HNI.out rfl))
                clear h0 h1
                go_wp2
                refine wp_region_quiet_below (by kernel_rfl) (by kernel_rfl) ?_
                repeat (go_big_quiet_step ((first | (go_at_call 46; exact Same.quiet (CT.out _ _)))))
                refine wpQuiet_nil ?_; intro w9 hq; have E9 := Ext.class hq; clear hq
                go_wp2
                go_roundw
                case rel => exact ⟨k + 1, by omega, by go_num, HV2, hE.trans E9⟩
                case measure => simp [intOf]; omega
        · obtain rfl : k = m.length := by omega
          have hvm : vmB m l.length = true := by have := HV.out; rwa [List.take_length] at this
          have HW := hide (HDD.out hvm)
          have hol : (oth m l.length).length ≤ 9 := by have := filK_len (fun i => !decide ((i : Int) ∈ m)) l.length; unfold oth; omega
          have HK := hide (show ∀ w', Ext wr w' → w'.cell? ⟨w1.heap.size, 0, none⟩ = some (.slice sb l.length cb) ∧ w'.cell? ⟨w1.heap.size, 1, none⟩ = some (.int .i64 need) from fun w' E => ⟨(XR.keep E).two.1, (XR.keep E).two.2.1⟩)
          clear hvm
          go_wp2
          refine wp_region_held_drew (S := (fun w' => w'.cell? ⟨w1.heap.size, 0, none⟩ = some (.slice sb l.length cb) ∧ w'.cell? ⟨w1.heap.size, 1, none⟩ = some (.int .i64 need))) (by kernel_rfl) (by first | exact HK.out _ ((Ext.refl wr).drew)) (fun hHeld => ?_)
          refine wpAnyH_take (i := 0) (oi := _) (v := ?_) rfl (by kernel_rfl) (by kernel_rfl) (by kernel_rfl) (fun _ _ _ h => h) (Or.inl ⟨by rfl, ?_⟩) (by assumption) ?_
          rotate_left
          · (intro w hSw; (try dsimp only at hSw); (try obtain ⟨hS0, hS1⟩ := hSw); go_simp; (try with_reducible rfl))
          (try simp only [List.getElem_toArray, List.getElem_cons_zero, Act.put, List.setIfInBounds_toArray, List.set_cons_zero, List.set_cons_succ])
          refine wpAnyH_take (i := 1) (oi := _) (v := ?_) rfl (by kernel_rfl) (by kernel_rfl) (by kernel_rfl) (fun _ _ _ h => h) (Or.inl ⟨by rfl, ?_⟩) (by assumption) ?_
          rotate_left
          · (intro w hSw; (try dsimp only at hSw); (try obtain ⟨hS0, hS1⟩ := hSw); go_simp; (try with_reducible rfl))
          (try simp only [List.getElem_toArray, List.getElem_cons_succ, List.getElem_cons_zero, Act.put, List.setIfInBounds_toArray, List.set_cons_zero, List.set_cons_succ])
          refine wpAnyH_take (i := 3) (oi := _) (v := ?_) rfl (by kernel_rfl) (by kernel_rfl) (by kernel_rfl) (fun _ _ _ h => h) (Or.inl ⟨by rfl, ?_⟩) (by assumption) ?_
          rotate_left
          · (intro w hSw; (try dsimp only at hSw); (try obtain ⟨hS0, hS1⟩ := hSw); go_simp; (try with_reducible rfl))
          (try simp only [List.getElem_toArray, List.getElem_cons_succ, List.getElem_cons_zero, Act.put, List.setIfInBounds_toArray, List.set_cons_zero, List.set_cons_succ])
          refine wpAnyH_take (i := 4) (oi := _) (v := ?_) rfl (by kernel_rfl) (by kernel_rfl) (by kernel_rfl) (fun _ _ _ h => h) (Or.inl ⟨by rfl, ?_⟩) (by assumption) ?_
          rotate_left
          · (intro w hSw; (try dsimp only at hSw); (try obtain ⟨hS0, hS1⟩ := hSw); go_simp; (try with_reducible rfl))
          (try simp only [List.getElem_toArray, List.getElem_cons_succ, List.getElem_cons_zero, Act.put, List.setIfInBounds_toArray, List.set_cons_zero, List.set_cons_succ])
          refine wpAnyH_take (i := 5) (oi := _) (v := ?_) rfl (by kernel_rfl) (by kernel_rfl) (by kernel_rfl) (fun _ _ _ h => h) (Or.inl ⟨by rfl, ?_⟩) (by assumption) ?_
          rotate_left
          · (intro w hSw; (try dsimp only at hSw); (try obtain ⟨hS0, hS1⟩ := hSw); go_simp; (try with_reducible rfl))
          (try simp only [List.getElem_toArray, List.getElem_cons_succ, List.getElem_cons_zero, Act.put, List.setIfInBounds_toArray, List.set_cons_zero, List.set_cons_succ])
          refine wpAnyH_take (i := 6) (oi := _) (v := ?_) rfl (by kernel_rfl) (by kernel_rfl) (by kernel_rfl) (fun _ _ _ h => h) (Or.inl ⟨by rfl, ?_⟩) (by assumption) ?_
          rotate_left
          · (intro w hSw; (try dsimp only at hSw); (try obtain ⟨hS0, hS1⟩ := hSw); go_simp; (try with_reducible rfl))
          (try simp only [List.getElem_toArray, List.getElem_cons_succ, List.getElem_cons_zero, Act.put, List.setIfInBounds_toArray, List.set_cons_zero, List.set_cons_succ])
          refine wpAnyH_ready (rs := [2]) (by kernel_rfl) (by simp) ?_
          refine AllReadyH.cons (o := _) rfl (fun K hK => ?_) AllReadyH.nil
          go_simp
          refine (implDualY sb cb l need dn _ (HL.out.ext (EX.trans ((Ext.refl wr).drew))) (by omega) hv Hdn.out).mono ?_; rintro e w7 ⟨s7, c7, rfl, R7, E7⟩
          refine hK.out _ _ (HK.out _ (((Ext.refl wr).drew).trans E7)) (fun hHeld => ?_); clear hK K
          (try simp only [List.getElem_toArray, List.getElem_cons_succ, List.getElem_cons_zero, Act.put, List.setIfInBounds_toArray, List.set_cons_zero, List.set_cons_succ])
          refine wpAnyH_ready (rs := [7]) (by kernel_rfl) (by simp) ?_
          refine AllReadyH.cons (o := _) rfl (fun K hK => ?_) AllReadyH.nil
          go_simp
          refine (others_any sm cm m.length m l.length _ (HM.out.ext (EX.trans (((Ext.refl wr).drew).trans E7))) rfl (by omega) (by omega)).mono ?_; rintro e w8 ⟨s8, c8, rfl, R8, hb8⟩
          refine hK.out _ _ (HK.out _ ((((Ext.refl wr).drew).trans E7).trans (Ext.of hb8))) (fun hHeld => ?_); clear hK K
          (try simp only [List.getElem_toArray, List.getElem_cons_succ, List.getElem_cons_zero, Act.put, List.setIfInBounds_toArray, List.set_cons_zero, List.set_cons_succ])
          have E8 := Ext.of hb8
          have HR7 := hide (R7.lst.ext E8)
          have hoc := R8.cap
          refine wpAnyH_ready (rs := [8]) (by kernel_rfl) (by simp) ?_
          refine AllReadyH.cons (o := _) rfl (fun K hK => ?_) AllReadyH.nil
          go_simp
          refine (Ret.eqB (implWins s7 c7 l dn s8 c8 (oth m l.length) _ HR7.out (by omega) R8.lst (by omega) hoc) HW.out).mono ?_; rintro e w9 ⟨rfl, E9⟩
          refine hK.out _ _ (HK.out _ (((((Ext.refl wr).drew).trans E7).trans (Ext.of hb8)).trans E9)) (fun hHeld => ?_); clear hK K
          (try simp only [List.getElem_toArray, List.getElem_cons_succ, List.getElem_cons_zero, Act.put, List.setIfInBounds_toArray, List.set_cons_zero, List.set_cons_succ])
          refine wpAnyH_take (i := 9) (oi := _) (v := ?_) rfl (by kernel_rfl) (by kernel_rfl) (by kernel_rfl) (fun _ _ _ h => h) (Or.inl ⟨by rfl, ?_⟩) (by assumption) ?_
          rotate_left
          · (intro w hSw; (try dsimp only at hSw); (try obtain ⟨hS0, hS1⟩ := hSw); go_simp; (try with_reducible rfl))
          (try simp only [List.getElem_toArray, List.getElem_cons_succ, List.getElem_cons_zero, Act.put, List.setIfInBounds_toArray, List.set_cons_zero, List.set_cons_succ])
          refine wpAnyH_ready (rs := [10]) (by kernel_rfl) (by simp) ?_
          refine AllReadyH.cons (o := _) rfl (fun K hK => ?_) AllReadyH.nil
          go_simp
          refine hK.out _ _ (HK.out _ (((((Ext.refl wr).drew).trans E7).trans (Ext.of hb8)).trans E9)) (fun hHeld => ?_); clear hK K
          (try simp only [List.getElem_toArray, List.getElem_cons_succ, List.getElem_cons_zero, Act.put, List.setIfInBounds_toArray, List.set_cons_zero, List.set_cons_succ])
          refine wpAnyH_done (by kernel_rfl) ?_ _
          have E12 := ((((Ext.refl wr).drew).trans E7).trans (Ext.of hb8)).trans E9
          go_wp2
          go_ret
          exact ⟨rfl, E1.trans (EX.trans E12)⟩
    · have hvf := hv
      rw [Bool.not_eq_true] at hvf
      go_wp2_with fail; refine (Ret.eqB (implValidBody sb cb l need _ (HL.out.ext E13) (by omega)) hvf).mono ?_; rintro e w4 ⟨rfl, E4⟩
      clear c0 c1
      obtain ⟨c0, c1, _, _⟩ := (X3.keep E4).two
      go_wp2_with fail; refine (CS.out _ (HL.out.ext (E13.trans E4)) (HM.out.ext (E13.trans E4))).mono ?_; rintro e w5 ⟨rfl, E5⟩
      go_wp2
      go_ret
      exact ⟨rfl, E1.trans ((E13.trans E4).trans E5)⟩
end Go.Proofs.Ytjdfdikifiljjaa
