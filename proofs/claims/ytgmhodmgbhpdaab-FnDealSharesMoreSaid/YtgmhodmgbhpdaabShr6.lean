/- Chapter 4: secrets that are opened, shares that fit together: contracts of the program and of the model. -/
import Derived.Test.YtgmhodmgbhpdaabShr5
namespace Go.Proofs.Ytgmhodmgbhpdaab
open Go.ChangeShapes Go.WideShapes Go.ChangeAt Go.RowKit Go.Joins Go.Sort
set_option linter.unusedVariables false

open Classical in
/-- the polynomial through valid shares, nothing for others -/
noncomputable def ptR (ll : List Sh) : List Int := if svOk ll ∧ ll.length ≤ 8 then thr ll else []
theorem ptR_yes {ll : List Sh} (h : svOk ll) (h8 : ll.length ≤ 8) : ptR ll = thr ll := if_pos ⟨h, h8⟩
theorem ptR_no {ll : List Sh} (h : ¬ (svOk ll ∧ ll.length ≤ 8)) : ptR ll = [] := if_neg h
theorem ptR_len (ll : List Sh) : (ptR ll).length ≤ 8 := by
  by_cases h : svOk ll ∧ ll.length ≤ 8
  · rw [ptR_yes h.1 h.2, thr_len h.1.gd]; exact h.2
  · rw [ptR_no h]; exact Nat.zero_le _
open Classical in
/-- the secret of shares, -1 for others -/
noncomputable def osR (ll : List Sh) : Int := if svOk ll ∧ 1 ≤ ll.length ∧ ll.length ≤ 8 then (thr ll).getD 0 0 else -1
theorem osR_yes {ll : List Sh} (h : svOk ll ∧ 1 ≤ ll.length ∧ ll.length ≤ 8) : osR ll = (thr ll).getD 0 0 := if_pos h
theorem osR_no {ll : List Sh} (h : ¬ (svOk ll ∧ 1 ≤ ll.length ∧ ll.length ≤ 8)) : osR ll = -1 := if_neg h
theorem osR_pt {ll : List Sh} : (1 ≤ (ptR ll).length ∧ osR ll = (ptR ll).getD 0 0) ∨ (ptR ll = [] ∧ osR ll = -1) := by
  by_cases h : svOk ll ∧ ll.length ≤ 8
  · by_cases h1 : 1 ≤ ll.length
    · left; rw [ptR_yes h.1 h.2, thr_len h.1.gd]; exact ⟨h1, osR_yes ⟨h.1, h1, h.2⟩⟩
    · right; rw [ptR_yes h.1 h.2]; exact ⟨List.length_eq_zero_iff.1 (by rw [thr_len h.1.gd]; omega), osR_no fun h2 => h1 h2.2.1⟩
  · right; exact ⟨ptR_no h, osR_no fun h2 => h ⟨h2.1, h2.2.2⟩⟩
set_option maxHeartbeats 400000 in
theorem implPT (sa : Option Addr) (cap n : Nat) (ll : List Sh) (w : World) (h : Sst w sa ll) (hn : ll.length = n) (hl : n ≤ 2000000) :
    Calls Try.prog 48 #[.slice sa n cap] w (RetList (ptR ll) w) := by
  subst hn
  have H := hide h; clear h
  by_cases hv : svOk ll
  · have hvb := svB_yes hv
    by_cases h8 : ll.length ≤ 8
    · have HF := hide (ptR_yes hv h8)
      have HG := hide hv.gd
      have HT := hide (fun q (h : isT ll q) => thr_of hv.gd h)
      clear hv
      go_enter Try.func48, Try.ntmps48
      go_wp2_with fail; refine (Ret.eqB (implVS _ _ _ ll _ H.out rfl hl) hvb).mono ?_; rintro e w1 ⟨rfl, E1⟩
      go_wp2_with fail; refine (implThr sa cap _ ll _ (H.out.ext E1) rfl (by omega) HG.out).mono ?_; rintro e w2 ⟨q, sq, cq, rfl, HQ, Rq, E2⟩
      have HE := hide (show ptR ll = q by rw [HF.out]; exact HT.out q HQ)
      have E12 := E1.trans E2
      have R2 := Rq.le (base' := w.heap.size + 0) E1.size
      clear HQ Rq
      go_wp2
      go_ret
      exact RetList.of (base := 0) HE.out R2 E12
    · have HF := hide (ptR_no (ll := ll) fun h => h8 h.2)
      have h8' : 8 < (ll.length : Int) := by omega
      clear hv h8
      go_enter Try.func48, Try.ntmps48
      go_wp2_with fail; refine (Ret.eqB (implVS _ _ _ ll _ H.out rfl hl) hvb).mono ?_; rintro e w1 ⟨rfl, E1⟩
      go_wp2
      go_ret
      exact RetList.of (base := 0) HF.out (Row.nil _ _) E1
  · have HF := hide (ptR_no (ll := ll) fun h => hv h.1)
    have hvb := svB_no hv
    clear hv
    go_enter Try.func48, Try.ntmps48
    go_wp2_with fail; refine (Ret.eqB (implVS _ _ _ ll _ H.out rfl hl) hvb).mono ?_; rintro e w1 ⟨rfl, E1⟩
    go_wp2
    go_ret
    exact RetList.of (base := 0) HF.out (Row.nil _ _) E1
set_option maxHeartbeats 400000 in
theorem implOS (sa : Option Addr) (cap n : Nat) (ll : List Sh) (w : World) (h : Sst w sa ll) (hn : ll.length = n) (hl : n ≤ 2000000) :
    Calls Try.prog 35 #[.slice sa n cap] w (Ret (.int .i64 (osR ll)) w) := by
  have HP := hide (implPT sa cap n ll w h hn hl)
  have HO := hide (@osR_pt ll)
  obtain ⟨L, hL⟩ : ∃ L, L = ptR ll := ⟨_, rfl⟩; rw [← hL] at HP HO
  clear hL h
  rcases HO.out with ⟨h1, h2⟩ | ⟨h1, h2⟩
  · have HF := hide h2
    clear h2 HO
    go_enter Try.func35, Try.ntmps35
    go_wp2_with fail; refine (HP.out).mono ?_; rintro e w1 ⟨s1, c1, rfl, R1, hb1⟩
    have E1 := Ext.of hb1
    obtain ⟨g, off, rfl, hg, q0⟩ := R1.lst.at (k := 0) (by omega)
    rw [Nat.add_zero] at q0
    obtain ⟨v, hv⟩ : ∃ v, v = L.getD 0 0 := ⟨_, rfl⟩; rw [← hv] at q0 HF
    have hne : ((L.length : Int) == 0) = false := by rw [beq_eq_false_iff_ne]; omega
    have hlt : (0 : Int) < (L.length : Int) := by omega
    clear hv hb1 R1 h1
    go_wp2
    go_ret
    exact Ret.int HF.out.symm E1
  · have HF := hide h2
    subst h1
    clear h2 HO
    go_enter Try.func35, Try.ntmps35
    go_wp2_with fail; refine (HP.out).mono ?_; rintro e w1 ⟨s1, c1, rfl, R1, hb1⟩
    have E1 := Ext.of hb1
    clear hb1 R1
    go_wp2
    go_ret
    exact Ret.int HF.out.symm E1
theorem fits_iff {ll : List Sh} {n : Nat} {q : List Int} (hg : gd ll) (hq : isT (ll.take (min n ll.length)) q) : fit ll n ↔ gt q ll := by
  by_cases h : n ≤ ll.length
  · rw [Nat.min_eq_left h] at hq; exact fit_first hg h hq
  · rw [Nat.min_eq_right (by omega), List.take_length] at hq
    exact ⟨fun _ => hq.2.2, fun _ => fit_few hq (by omega)⟩
theorem pv_is {q : List Int} {x y : Int} (h0 : 0 ≤ y) (h1 : y ≤ 250) : pv q x = y ↔ (251 : Int) ∣ ev q x - y := by
  unfold pv; omega
open Classical in
noncomputable def ftB (ll : List Sh) (n : Nat) : Bool := decide (fit ll n)
theorem ftB_yes {ll : List Sh} {n : Nat} (h : fit ll n) : ftB ll n = true := by unfold ftB; simp [h]
theorem ftB_no {ll : List Sh} {n : Nat} (h : ¬ fit ll n) : ftB ll n = false := by unfold ftB; simp [h]
theorem ftB_iff {ll : List Sh} {n : Nat} : ftB ll n = true ↔ fit ll n := by unfold ftB; simp
open Classical in
noncomputable def ftR (ll : List Sh) (need : Int) : Bool := decide (svOk ll ∧ 1 ≤ need ∧ need ≤ 8 ∧ fit ll need.toNat)
theorem ftR_iff {ll : List Sh} {need : Int} : ftR ll need = true ↔ svOk ll ∧ 1 ≤ need ∧ need ≤ 8 ∧ fit ll need.toNat := by unfold ftR; simp
theorem ftR_no {ll : List Sh} {need : Int} (h : ¬ (svOk ll ∧ 1 ≤ need ∧ need ≤ 8 ∧ fit ll need.toNat)) : ftR ll need = false := by rw [← Bool.not_eq_true, ftR_iff]; exact h
theorem ftR_ok {ll : List Sh} {n : Nat} (h : svOk ll) (h1 : 1 ≤ n) (h8 : n ≤ 8) : ftR ll (n : Int) = ftB ll n := by
  rw [Bool.eq_iff_iff, ftR_iff, ftB_iff, Int.toNat_natCast]; exact ⟨fun h => h.2.2.2, fun h2 => ⟨h, by omega, by omega, h2⟩⟩
theorem gtk_succ {q : List Int} {ll : List Sh} {k : Nat} (h : ∀ j, j < k → (251 : Int) ∣ ev q (ll.getD j Sh.z).x - (ll.getD j Sh.z).y) (hk : (251 : Int) ∣ ev q (ll.getD k Sh.z).x - (ll.getD k Sh.z).y) : ∀ j, j < k + 1 → (251 : Int) ∣ ev q (ll.getD j Sh.z).x - (ll.getD j Sh.z).y := fun j hj => by
  by_cases e : j = k
  · rw [e]; exact hk
  · exact h j (by omega)
set_option maxHeartbeats 1600000 in
theorem specFits (sa : Option Addr) (cap n need : Nat) (ll : List Sh) (w : World) (h : Sst w sa ll) (hn : ll.length = n) (hl : n ≤ 1000) (hcap : n ≤ cap) (hg : gd ll) (h8 : need ≤ 8) :
    Calls Try.prog 56 #[.slice sa n cap, .int .i64 need] w (Ret (.bool (ftB ll need)) w) := by
  subst hn
  have H := hide h; clear h
  have HG := hide hg; clear hg
  obtain ⟨t, ht⟩ : ∃ t, t = min need ll.length := ⟨_, rfl⟩
  have htl : (ll.take t).length = t := by rw [List.length_take]; omega
  have HTL := hide htl
  have htc : t ≤ cap := by omega
  have htn : t ≤ ll.length := by omega
  have hmin : min (need : Int) (ll.length : Int) = (t : Int) := by omega
  have HIF := hide (fun q (h : isT (ll.take t) q) => fits_iff (n := need) HG.out (by rw [← ht]; exact h))
  have HGT := hide (HG.out.sub (List.take_sublist t ll))
  have HS := hide (H.out.take t)
  clear ht htl
  go_enter Try.func56, Try.ntmps56
  by_cases hlt0 : need < ll.length
  · obtain rfl : t = need := by omega
    clear hmin
    have hlti : (t : Int) < (ll.length : Int) := by omega
    go_wp2_with fail; refine (specThr sa cap t (ll.take t) _ HS.out HTL.out (by omega) HGT.out).mono ?_; rintro e w1 ⟨q, sq, cq, rfl, HQ, Rq, E1⟩
    have HI := hide (HIF.out q HQ)
    have HQR := hide HQ.2.1
    have hql : q.length ≤ 1000 := by rw [HQ.1, HTL.out]; omega
    have HLQ := hide Rq.lst
    clear HQ Rq HIF HS HGT
    go_wp2
    go_loopw [6] (fun i wr => ∃ k : Nat, k ≤ ll.length ∧ i = .int .i64 k ∧ Hid (∀ j, j < k → (251 : Int) ∣ ev q (ll.getD j Sh.z).x - (ll.getD j Sh.z).y) ∧ Ext w1 wr) (fun i _ => ll.length - (intOf i).toNat)
    case atStart => exact ⟨0, Nat.zero_le _, rfl, (show ∀ j, j < 0 → _ from fun j hj => absurd hj (Nat.not_lt_zero _)), Ext.refl _⟩
    case round =>
      obtain ⟨k, hk, rfl, HK, hE⟩ := hrel
      by_cases hlt : k < ll.length
      · have hki : (k : Int) < (ll.length : Int) := by omega
        obtain ⟨g, off, rfl, hg, q0, q1⟩ := (H.out.ext (E1.trans hE)).at hlt
        have hx := HG.out.x k
        have hy := HG.out.y k
        have HP := hide (pv_is (q := q) (x := (ll.getD k Sh.z).x) hy.1 hy.2)
        have HKS := hide (fun h => gtk_succ HK.out h)
        have HKN := hide (fun (h : gt q ll) => h.at hlt)
        obtain ⟨x, hxx⟩ : ∃ x, x = (ll.getD k Sh.z).x := ⟨_, rfl⟩; rw [← hxx] at q0 hx HP HKS HKN
        obtain ⟨y, hyy⟩ : ∃ y, y = (ll.getD k Sh.z).y := ⟨_, rfl⟩; rw [← hyy] at q1 hy HP HKS HKN
        clear hxx hyy
        have HV := hide (fun w2 (e : Ext wr w2) => specVal sq cq q.length q x w2 ((HLQ.out.ext hE).ext e) rfl (by omega) HQR.out hx.1 hx.2)
        obtain ⟨p, hp⟩ : ∃ p, p = pv q x := ⟨_, rfl⟩; rw [← hp] at HP HV
        have r0 := cell_regrown q0
        have r1 := cell_regrown q1
        by_cases he : p = y
        · have HK2 := hide (HKS.out (HP.out.1 he))
          have hd : ((p : Int) != y) = false := by rw [he]; simp
          have HE := hide he; clear he
          clear hp HKS HKN HP q0 q1
          go_wp2
          refine wp_region_quiet_below (by kernel_rfl) (by kernel_rfl) ?_
          repeat (go_big_quiet_step ((first | (go_at_call 73; exact Same.quiet (HV.out _ (below_regrown _ _ _))))))
          refine wpQuiet_nil ?_; intro w9 hq; have E9 := Ext.class hq; clear hq
          clear r0 r1
          go_wp2
          go_roundw
          case rel => exact ⟨k + 1, by omega, by go_num, HK2, hE.trans E9⟩
          case measure => (first | (simp [intOf]; done) | (simp [intOf]; omega))
        · have HB := hide (show ftB ll t = false from ftB_no fun h => he (HP.out.2 (HKN.out (HI.out.1 h))))
          have hd : ((p : Int) != y) = true := by rw [bne_iff_ne]; exact he
          clear hp HKS HKN HP q0 q1 he
          go_wp2
          refine wp_region_quiet_below (by kernel_rfl) (by kernel_rfl) ?_
          repeat (go_big_quiet_step ((first | (go_at_call 73; exact Same.quiet (HV.out _ (below_regrown _ _ _))))))
          refine wpQuiet_nil ?_; intro w9 hq; have E9 := Ext.class hq; clear hq
          clear r0 r1
          go_wp2
          go_ret
          exact Ret.bool (by rw [HB.out]) ((E1.trans hE).trans E9)
      · obtain rfl : k = ll.length := by omega
        have HB := hide (show ftB ll t = true from ftB_yes (HI.out.2 (gt_at HK.out)))
        go_wp2
        go_ret
        exact Ret.bool (by rw [HB.out]) (E1.trans hE)
  · obtain rfl : t = ll.length := by omega
    clear hmin
    by_cases heq : need = ll.length
    · subst heq
      go_wp2_with fail; refine (specThr sa cap ll.length (ll.take ll.length) _ HS.out HTL.out (by omega) HGT.out).mono ?_; rintro e w1 ⟨q, sq, cq, rfl, HQ, Rq, E1⟩
      have HI := hide (HIF.out q HQ)
      have HQR := hide HQ.2.1
      have hql : q.length ≤ 1000 := by rw [HQ.1, HTL.out]; omega
      have HLQ := hide Rq.lst
      clear HQ Rq HIF HS HGT
      go_wp2
      go_loopw [6] (fun i wr => ∃ k : Nat, k ≤ ll.length ∧ i = .int .i64 k ∧ Hid (∀ j, j < k → (251 : Int) ∣ ev q (ll.getD j Sh.z).x - (ll.getD j Sh.z).y) ∧ Ext w1 wr) (fun i _ => ll.length - (intOf i).toNat)
      case atStart => exact ⟨0, Nat.zero_le _, rfl, (show ∀ j, j < 0 → _ from fun j hj => absurd hj (Nat.not_lt_zero _)), Ext.refl _⟩
      case round =>
        obtain ⟨k, hk, rfl, HK, hE⟩ := hrel
        by_cases hlt : k < ll.length
        · have hki : (k : Int) < (ll.length : Int) := by omega
          obtain ⟨g, off, rfl, hg, q0, q1⟩ := (H.out.ext (E1.trans hE)).at hlt
          have hx := HG.out.x k
          have hy := HG.out.y k
          have HP := hide (pv_is (q := q) (x := (ll.getD k Sh.z).x) hy.1 hy.2)
          have HKS := hide (fun h => gtk_succ HK.out h)
          have HKN := hide (fun (h : gt q ll) => h.at hlt)
          obtain ⟨x, hxx⟩ : ∃ x, x = (ll.getD k Sh.z).x := ⟨_, rfl⟩; rw [← hxx] at q0 hx HP HKS HKN
          obtain ⟨y, hyy⟩ : ∃ y, y = (ll.getD k Sh.z).y := ⟨_, rfl⟩; rw [← hyy] at q1 hy HP HKS HKN
          clear hxx hyy
          have HV := hide (fun w2 (e : Ext wr w2) => specVal sq cq q.length q x w2 ((HLQ.out.ext hE).ext e) rfl (by omega) HQR.out hx.1 hx.2)
          obtain ⟨p, hp⟩ : ∃ p, p = pv q x := ⟨_, rfl⟩; rw [← hp] at HP HV
          have r0 := cell_regrown q0
          have r1 := cell_regrown q1
          by_cases he : p = y
          · have HK2 := hide (HKS.out (HP.out.1 he))
            have hd : ((p : Int) != y) = false := by rw [he]; simp
            have HE := hide he; clear he
            clear hp HKS HKN HP q0 q1
            go_wp2
            refine wp_region_quiet_below (by kernel_rfl) (by kernel_rfl) ?_
            repeat (go_big_quiet_step ((first | (go_at_call 73; exact Same.quiet (HV.out _ (below_regrown _ _ _))))))
            refine wpQuiet_nil ?_; intro w9 hq; have E9 := Ext.class hq; clear hq
            clear r0 r1
            go_wp2
            go_roundw
            case rel => exact ⟨k + 1, by omega, by go_num, HK2, hE.trans E9⟩
            case measure => (first | (simp [intOf]; done) | (simp [intOf]; omega))
          · have HB := hide (show ftB ll ll.length = false from ftB_no fun h => he (HP.out.2 (HKN.out (HI.out.1 h))))
            have hd : ((p : Int) != y) = true := by rw [bne_iff_ne]; exact he
            clear hp HKS HKN HP q0 q1 he
            go_wp2
            refine wp_region_quiet_below (by kernel_rfl) (by kernel_rfl) ?_
            repeat (go_big_quiet_step ((first | (go_at_call 73; exact Same.quiet (HV.out _ (below_regrown _ _ _))))))
            refine wpQuiet_nil ?_; intro w9 hq; have E9 := Ext.class hq; clear hq
            clear r0 r1
            go_wp2
            go_ret
            exact Ret.bool (by rw [HB.out]) ((E1.trans hE).trans E9)
        · obtain rfl : k = ll.length := by omega
          have HB := hide (show ftB ll ll.length = true from ftB_yes (HI.out.2 (gt_at HK.out)))
          go_wp2
          go_ret
          exact Ret.bool (by rw [HB.out]) (E1.trans hE)
    · have hlti : (ll.length : Int) < (need : Int) := by omega
      clear hlt0 heq
      go_wp2_with fail; refine (specThr sa cap ll.length (ll.take ll.length) _ HS.out HTL.out (by omega) HGT.out).mono ?_; rintro e w1 ⟨q, sq, cq, rfl, HQ, Rq, E1⟩
      have HI := hide (HIF.out q HQ)
      have HQR := hide HQ.2.1
      have hql : q.length ≤ 1000 := by rw [HQ.1, HTL.out]; omega
      have HLQ := hide Rq.lst
      clear HQ Rq HIF HS HGT
      go_wp2
      go_loopw [6] (fun i wr => ∃ k : Nat, k ≤ ll.length ∧ i = .int .i64 k ∧ Hid (∀ j, j < k → (251 : Int) ∣ ev q (ll.getD j Sh.z).x - (ll.getD j Sh.z).y) ∧ Ext w1 wr) (fun i _ => ll.length - (intOf i).toNat)
      case atStart => exact ⟨0, Nat.zero_le _, rfl, (show ∀ j, j < 0 → _ from fun j hj => absurd hj (Nat.not_lt_zero _)), Ext.refl _⟩
      case round =>
        obtain ⟨k, hk, rfl, HK, hE⟩ := hrel
        by_cases hlt : k < ll.length
        · have hki : (k : Int) < (ll.length : Int) := by omega
          obtain ⟨g, off, rfl, hg, q0, q1⟩ := (H.out.ext (E1.trans hE)).at hlt
          have hx := HG.out.x k
          have hy := HG.out.y k
          have HP := hide (pv_is (q := q) (x := (ll.getD k Sh.z).x) hy.1 hy.2)
          have HKS := hide (fun h => gtk_succ HK.out h)
          have HKN := hide (fun (h : gt q ll) => h.at hlt)
          obtain ⟨x, hxx⟩ : ∃ x, x = (ll.getD k Sh.z).x := ⟨_, rfl⟩; rw [← hxx] at q0 hx HP HKS HKN
          obtain ⟨y, hyy⟩ : ∃ y, y = (ll.getD k Sh.z).y := ⟨_, rfl⟩; rw [← hyy] at q1 hy HP HKS HKN
          clear hxx hyy
          have HV := hide (fun w2 (e : Ext wr w2) => specVal sq cq q.length q x w2 ((HLQ.out.ext hE).ext e) rfl (by omega) HQR.out hx.1 hx.2)
          obtain ⟨p, hp⟩ : ∃ p, p = pv q x := ⟨_, rfl⟩; rw [← hp] at HP HV
          have r0 := cell_regrown q0
          have r1 := cell_regrown q1
          by_cases he : p = y
          · have HK2 := hide (HKS.out (HP.out.1 he))
            have hd : ((p : Int) != y) = false := by rw [he]; simp
            have HE := hide he; clear he
            clear hp HKS HKN HP q0 q1
            go_wp2
            refine wp_region_quiet_below (by kernel_rfl) (by kernel_rfl) ?_
            repeat (go_big_quiet_step ((first | (go_at_call 73; exact Same.quiet (HV.out _ (below_regrown _ _ _))))))
            refine wpQuiet_nil ?_; intro w9 hq; have E9 := Ext.class hq; clear hq
            clear r0 r1
            go_wp2
            go_roundw
            case rel => exact ⟨k + 1, by omega, by go_num, HK2, hE.trans E9⟩
            case measure => (first | (simp [intOf]; done) | (simp [intOf]; omega))
          · have HB := hide (show ftB ll need = false from ftB_no fun h => he (HP.out.2 (HKN.out (HI.out.1 h))))
            have hd : ((p : Int) != y) = true := by rw [bne_iff_ne]; exact he
            clear hp HKS HKN HP q0 q1 he
            go_wp2
            refine wp_region_quiet_below (by kernel_rfl) (by kernel_rfl) ?_
            repeat (go_big_quiet_step ((first | (go_at_call 73; exact Same.quiet (HV.out _ (below_regrown _ _ _))))))
            refine wpQuiet_nil ?_; intro w9 hq; have E9 := Ext.class hq; clear hq
            clear r0 r1
            go_wp2
            go_ret
            exact Ret.bool (by rw [HB.out]) ((E1.trans hE).trans E9)
        · obtain rfl : k = ll.length := by omega
          have HB := hide (show ftB ll need = true from ftB_yes (HI.out.2 (gt_at HK.out)))
          go_wp2
          go_ret
          exact Ret.bool (by rw [HB.out]) (E1.trans hE)
end Go.Proofs.Ytgmhodmgbhpdaab
