/- Chapter 4: the walks of the laws of a polynomial with a secret, and of shares that are dealt, at drawn arguments. -/
import Derived.Test.YtgmhodmgbhpdaabDrawM
import Derived.Test.YtgmhodmgbhpdaabLawK0
namespace Go.Proofs.Ytgmhodmgbhpdaab
open Go.ChangeShapes Go.WideShapes Go.ChangeAt Go.RowKit Go.Joins Go.Sort
set_option linter.unusedVariables false

theorem equalInts_yes (sa sb : Option Addr) (a : List Int) (na ca cb : Nat) (w : World) (ha : Lst w sa a) (hb : Lst w sb a) (hn : a.length = na) (la : na ≤ 2000000) :
    Calls Try.prog 46 #[.slice sa na ca, .slice sb na cb] w (EqRet true w) := by
  subst hn
  exact (equalInts_any sa sb a a ca cb w ha hb la la).mono fun e w' ⟨he, hb⟩ => ⟨by rw [he]; simp, hb⟩
theorem pv_rg (c : List Int) (x : Int) : 0 ≤ pv c x ∧ pv c x ≤ 250 := by unfold pv; omega
theorem dl_rgy (c xs : List Int) : rg (ysL (dl c xs)) := fun y hy => by
  obtain ⟨j, hj, e⟩ := mem_getD hy
  rw [ysL_len, dl_len] at hj
  rw [ysL_at, dl_at c xs hj] at e
  rw [← e]; exact pv_rg c _
theorem dl_gt (c xs : List Int) : gt c (dl c xs) := gt_at fun j hj => by
  rw [dl_len] at hj
  rw [dl_at c xs hj]
  exact pv_dv c _
theorem gt_sub {q : List Int} {a b : List Sh} (h : gt q b) (s : a.Sublist b) : gt q a := fun t ht => h t (s.subset ht)
theorem de_facts {c xs : List Int} (h0 : 0 < (deR c xs).length) : (deR c xs).length = xs.length ∧ c.length ≤ 8 ∧ svOk (deR c xs) ∧ rg c ∧ gt c (deR c xs) := by
  by_cases hc : cfB c = true
  · by_cases hp : plB xs = true
    · rw [deR_yes hc hp]
      have h2 := cfB_iff.1 hc
      exact ⟨dl_len c xs, h2.1, ⟨by rw [dl_xs]; exact (plB_iff.1 hp), dl_rgy c xs⟩, h2.2, dl_gt c xs⟩
    · rw [deR_no2 (by simpa using hp)] at h0; simp at h0
  · rw [deR_no (by simpa using hc)] at h0; simp at h0
/-- any c.length of the shares open to the first coefficient -/
theorem de_open {c : List Int} {o : List Sh} (h : svOk o) (hr : rg c) (hg : gt c o) (h1 : 1 ≤ c.length) (h8 : c.length ≤ 8) {l2 : List Sh} (s : l2.Sublist o) (hl : l2.length = c.length) : osR l2 = c.getD 0 0 := by
  have hv := h.sub s
  have hT : isT l2 c := ⟨hl.symm, hr, gt_sub hg s⟩
  rw [osR_yes ⟨hv, by omega, by omega⟩, thr_of hv.gd hT]
theorem de_more {c : List Int} {o : List Sh} (h : svOk o) (hr : rg c) (hg : gt c o) (h1 : 1 ≤ c.length) (hl : c.length ≤ o.length) (h8 : o.length ≤ 8) :
    ptR o = c ++ List.replicate (o.length - c.length) 0 ∧ osR o = c.getD 0 0 := by
  have hT : isT o (c ++ List.replicate (o.length - c.length) 0) := by
    refine ⟨by simp; omega, fun x hx => ?_, fun t ht => by rw [ev_pad]; exact hg t ht⟩
    rcases List.mem_append.1 hx with hx | hx
    · exact hr x hx
    · rw [(List.mem_replicate.1 hx).2]; omega
  rw [ptR_yes h h8, osR_yes ⟨h, by omega, h8⟩, thr_of h.gd hT]
  refine ⟨rfl, ?_⟩
  cases c with
  | nil => simp at h1
  | cons u c => rfl
theorem more_at (c : List Int) (n k : Nat) : (c ++ List.replicate n 0).getD k 0 = if k < c.length then c.getD k 0 else 0 := by
  split
  · rw [List.getD_eq_getElem?_getD, List.getElem?_append_left (by assumption), ← List.getD_eq_getElem?_getD]
  · rw [List.getD_eq_getElem?_getD, List.getElem?_append_right (by omega), List.getElem?_replicate]
    split <;> rfl
theorem de_fit {c : List Int} {o : List Sh} (h : svOk o) (hr : rg c) (hg : gt c o) (h1 : 1 ≤ c.length) (h8 : c.length ≤ 8) : ftR o (c.length : Int) = true :=
  ftR_iff.2 ⟨h, by omega, by omega, ⟨c, by simp, hr, hg⟩⟩
set_option maxRecDepth 100000 in
set_option maxHeartbeats 1600000 in
theorem walkFnPolyWith (w : World) (sa : Option Addr) (len cap : Nat) (h : Code w sa len cap) (hl : len ≤ maxLen) :
    Calls Try.prog 12 #[.slice sa len cap] w fun e w' => e = .returned (.bool true) ∧ Below w.heap.size w w' := by
  have hl' := hl
  unfold maxLen at hl'
  by_cases hbig : 1048576 < len
  · clear h hl
    go_enter Try.func12, Try.ntmps12
    go_wp2
    go_ret
    exact ⟨rfl, Below.refl _ _⟩
  go_enter Try.func12, Try.ntmps12
  go_wp2_with fail
  refine (dDrawPolyWith sa len cap w h hl).mono ?_
  rintro e w1 ⟨sl, cl, l, s, rfl, RA, na, hs1, hs2, E1⟩
  clear h hl hl' hbig
  have HL := hide RA.sst
  clear RA
  have HP1 := hide (fun w2 (e : Ext w1 w2) => implPW sl cl l.length l s w2 (HL.out.ext e) rfl (by omega))
  have HP2 := hide (fun w2 (e : Ext w1 w2) => specPW sl cl l.length l s w2 (HL.out.ext e) rfl (by omega))
  have HPS := hide (fun z w2 (e : Ext w1 w2) => implPW sl cl l.length l z w2 (HL.out.ext e) rfl (by omega))
  have hol := pwR_len l s
  by_cases h0 : 0 < (pwR l s).length
  · obtain ⟨hv, h7, hs⟩ := pw_facts h0
    have HPW := hide (fun z (h1 : (0 : Int) ≤ z) (h2 : z ≤ 250) => pw_has hv h7 (inr_iff.2 ⟨h1, h2⟩))
    have HS0 := hide (pw_has hv h7 hs).2.1
    have HXY := hide (fun k => hv.gd.x k)
    clear hv hs
    obtain ⟨o, ho⟩ : ∃ o, o = pwR l s := ⟨_, rfl⟩; rw [← ho] at HP1 HP2 hol HS0 h0
    have hne0 : ((o.length : Int) == 0) = false := by rw [beq_eq_false_iff_ne]; omega
    clear ho
    go_wp2_with fail; refine (HP1.out _ (Ext.refl _)).mono ?_; rintro e w2 ⟨s2, c2, rfl, R2, hb2⟩
    have E2 := Ext.of hb2; clear hb2
    go_wp2_with fail; refine (HP2.out _ E2).mono ?_; rintro e w3 ⟨s3, c3, rfl, R3, hb3⟩
    have E3 := Ext.of hb3; clear hb3
    go_wp2_with fail; refine (equalInts_yes s2 s3 o o.length c2 c3 _ (R2.lst.ext E3) R3.lst rfl (by omega)).mono ?_; rintro e w4 ⟨rfl, hb4⟩
    have E4 := Ext.of hb4; clear hb4
    have E24 := E3.trans E4
    have HL2 := hide (R2.lst.ext E24)
    have E14 := E2.trans E24
    clear R2 R3
    go_wp2
    go_loopw [6] (fun i wr => ∃ z : Int, 0 ≤ z ∧ z ≤ 310 ∧ i = .int .i64 z ∧ Ext w4 wr) (fun i _ => 400 - (intOf i).toNat)
    case atStart => exact ⟨0, by omega, by omega, rfl, Ext.refl _⟩
    case round =>
      obtain ⟨z, z0, z1, rfl, hE⟩ := hrel
      by_cases hlt : z < 251
      · obtain ⟨e1, e2, e3⟩ := HPW.out z z0 (by omega)
        have HC := hide (HPS.out z _ (E14.trans hE))
        have h8 := pwR_len l z
        have HPA := hide (fun s c w5 (h : Lst w5 s (pwR l z)) x => implPolyAt s c (pwR l z) x w5 h (by omega))
        have HE3 := hide e3
        have HE1 := hide e1
        clear e1 e3
        obtain ⟨P, hP⟩ : ∃ P, P = pwR l z := ⟨_, rfl⟩; rw [← hP] at HC HPA HE3 HE1 h8 e2
        clear hP
        go_wp2_with fail; refine (HC.out).mono ?_; rintro e w6 ⟨s6, c6, rfl, R6, hb6⟩
        have E6 := hE.trans (Ext.of hb6); clear hb6
        have HL6 := hide R6.lst
        clear R6
        have hpi : ((P.length : Int) != (l.length : Int) + 1) = false := by rw [HE1.out]; simp
        have hwl : IntKind.i64.wrap ((l.length : Int) + 1) = (l.length : Int) + 1 := IntWalk.i64_in _ (by omega)
        obtain ⟨gp, op, rfl, hgp, cp⟩ := HL6.out.at (show 0 < P.length by rw [HE1.out]; omega)
        rw [e2, Nat.add_zero] at cp
        have hzz : ((z : Int) != z) = false := by simp
        have hpp : 0 < P.length := by rw [HE1.out]; omega
        have hpq : (0 : Int) < (P.length : Int) := by omega
        clear e2
        go_wp2
        go_loopw [8] (fun i wq => ∃ k : Nat, k ≤ l.length ∧ i = .int .i64 k ∧ Ext w6 wq) (fun i _ => l.length - (intOf i).toNat)
        case atStart => exact ⟨0, Nat.zero_le _, rfl, Ext.refl _⟩
        case round =>
          clear cp hpi hwl hpp hpq
          obtain ⟨k, hk, rfl, hF⟩ := hrel
          by_cases hkl : k < l.length
          · have hki : (k : Int) < (l.length : Int) := by omega
            obtain ⟨g, off, rfl, hg, q0, q1⟩ := (HL.out.ext ((E14.trans E6).trans hF)).at hkl
            have HCK := hide (fun w7 (e : Ext w6 w7) => HPA.out (some ⟨gp, op, none⟩) c6 w7 (HL6.out.ext e) (l.getD k Sh.z).x)
            rw [HE3.out k hkl] at HCK
            obtain ⟨x, hx⟩ : ∃ x, x = (l.getD k Sh.z).x := ⟨_, rfl⟩; rw [← hx] at q0 HCK
            obtain ⟨y, hy⟩ : ∃ y, y = (l.getD k Sh.z).y := ⟨_, rfl⟩; rw [← hy] at q1 HCK
            have r0 := cell_regrown q0
            have r1 := cell_regrown q1
            have hyy : ((y : Int) != y) = false := by simp
            clear hx hy q0 q1
            go_wp2
            refine wp_region_quiet_below (by kernel_rfl) (by kernel_rfl) ?_
            repeat (go_big_quiet_step ((first | (go_at_call 47; exact Same.quiet (HCK.out _ (hF.trans (below_regrown _ _ _)))))))
            refine wpQuiet_nil ?_; intro w9 hq; have E9 := Ext.class hq; clear hq
            go_wp2
            go_roundw
            case rel => exact ⟨k + 1, by omega, by go_num, hF.trans E9⟩
            case measure => (first | (simp [intOf]; done) | (simp [intOf]; omega))
          · have hki : decide ((k : Int) < (l.length : Int)) = false := decide_eq_false (by omega)
            have hwz : IntKind.i64.wrap (z + 60) = z + 60 := IntWalk.i64_in _ (by omega)
            go_wp2
            go_roundw
            case rel => exact ⟨z + 60, by omega, by omega, by first | rfl | (simp [hwz]), E6.trans hF⟩
            case measure => (first | (simp [intOf]; omega) | (simp [intOf, hwz]; omega))
      · have hki : decide (z < 251) = false := decide_eq_false hlt
        obtain ⟨gp, op, rfl, hgp, cp⟩ := (HL2.out.ext hE).at (show 0 < o.length from h0)
        rw [HS0.out, Nat.add_zero] at cp
        have hzz : ((s : Int) == s) = true := by simp
        go_wp2
        go_ret
        exact ⟨rfl, E1.trans (E14.trans hE)⟩
  · have hn0 : pwR l s = [] := List.length_eq_zero_iff.1 (by omega)
    rw [hn0] at HP1 HP2
    clear hn0 h0 hol
    go_wp2_with fail; refine (HP1.out _ (Ext.refl _)).mono ?_; rintro e w2 ⟨s2, c2, rfl, R2, hb2⟩
    have E2 := Ext.of hb2; clear hb2
    go_wp2_with fail; refine (HP2.out _ E2).mono ?_; rintro e w3 ⟨s3, c3, rfl, R3, hb3⟩
    have E3 := Ext.of hb3; clear hb3
    go_wp2_with fail; refine (equalInts_yes s2 s3 [] 0 c2 c3 _ (.inl rfl) (.inl rfl) rfl (by omega)).mono ?_; rintro e w4 ⟨rfl, hb4⟩
    have E4 := Ext.of hb4; clear hb4
    have E14 := E2.trans (E3.trans E4)
    go_wp2_with fail; refine (HP2.out _ E14).mono ?_; rintro e w5 ⟨s5, c5, rfl, R5, hb5⟩
    have E5 := Ext.of hb5; clear hb5
    go_wp2_with fail; refine (equalInts_yes s2 s5 [] 0 c2 c5 _ (.inl rfl) (.inl rfl) rfl (by omega)).mono ?_; rintro e w6 ⟨rfl, hb6⟩
    have E6 := Ext.of hb6; clear hb6
    go_wp2
    go_ret
    exact ⟨rfl, E1.trans (E14.trans (E5.trans E6))⟩
end Go.Proofs.Ytgmhodmgbhpdaab
