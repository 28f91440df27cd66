/- Chapter 4: the walks of the laws of inverses, values, valid shares, polynomials through shares, secrets, at drawn arguments. -/
import Derived.Test.YtgmhodmgbhpdaaaDrawL
import Derived.Test.YtgmhodmgbhpdaaaShr8
namespace Go.Proofs.Ytgmhodmgbhpdaaa
open Go.ChangeShapes Go.WideShapes Go.ChangeAt Go.RowKit Go.Joins Go.Sort
set_option linter.unusedVariables false

theorem inv_facts {n : Int} (h : 0 ≤ invR n) : 1 ≤ n ∧ n ≤ 250 := by
  by_cases h2 : 1 ≤ n ∧ n ≤ 250
  · exact h2
  · rw [invR_no h2] at h; omega
theorem pa_facts {l : List Int} {x : Int} (h : 0 ≤ paR l x) : cfB l = true ∧ inr x 0 250 = true := by
  by_cases h1 : cfB l = true
  · by_cases h2 : inr x 0 250 = true
    · exact ⟨h1, h2⟩
    · rw [Bool.not_eq_true] at h2; rw [paR_no2 h2] at h; omega
  · rw [Bool.not_eq_true] at h1; rw [paR_no h1] at h; omega
theorem pa_split {l : List Int} {x : Int} (h : cfB l = true) (hx : inr x 0 250 = true) (hne : 0 < l.length) :
    paR l x = (l.getD 0 0 + x * paR (l.drop 1) x) % 251 ∧ paR l 0 = l.getD 0 0 ∧ (0 ≤ paR (l.drop 1) x ∧ paR (l.drop 1) x ≤ 250) ∧ 0 ≤ l.getD 0 0 ∧ l.getD 0 0 ≤ 250 := by
  cases l with
  | nil => simp at hne
  | cons a t =>
    have hc := cfB_iff.1 h
    have ht : cfB t = true := cfB_iff.2 ⟨by have := hc.1; rw [List.length_cons] at this; omega, fun y hy => hc.2 y (List.mem_cons_of_mem _ hy)⟩
    have ha := hc.2 a (List.mem_cons_self ..)
    have hx2 := inr_iff.1 hx
    have e1 : (a :: t).drop 1 = t := rfl
    have e2 : (a :: t).getD 0 0 = a := rfl
    rw [e1, e2, paR_yes h hx, paR_yes h (inr_iff.2 (by omega)), paR_yes ht hx]
    refine ⟨?_, ?_, pv_bd t x, ha⟩
    · rw [← pv_step, Int.mul_comm, Int.add_comm]
    · show (a + 0 * ev t 0) % 251 = a
      rw [Int.zero_mul]; omega
set_option maxRecDepth 100000 in
set_option maxHeartbeats 800000 in
theorem walkFnInverseOf (w : World) (sa : Option Addr) (len cap : Nat) (h : Code w sa len cap) (hl : len ≤ maxLen) :
    Calls Try.prog 4 #[.slice sa len cap] w fun e w' => e = .returned (.bool true) ∧ Below w.heap.size w w' := by
  have hl' := hl
  unfold maxLen at hl'
  by_cases hbig : 1048576 < len
  · clear h hl
    go_enter Try.func4, Try.ntmps4
    go_wp2
    go_ret
    exact ⟨rfl, Below.refl _ _⟩
  go_enter Try.func4, Try.ntmps4
  go_wp2_with fail
  refine (dDrawInverseOf sa len cap w h hl).mono ?_
  rintro e w1 ⟨n, rfl, n0, n1, E1⟩
  clear h hl hl' hbig
  have HP1 := hide (fun w2 => implInv n w2)
  have HP2 := hide (fun w2 => specInv n w2)
  by_cases h0 : 0 ≤ invR n
  · obtain ⟨a0, a1⟩ := inv_facts h0
    have hi := iv_bd n
    have hi1 := iv_pos a0 a1
    have hm := iv_one a0 a1
    have HB := hide (show invR (iv n) = n by rw [invR_yes hi1 hi.2, iv_iv a0 a1])
    have HP3 := hide (fun w2 => implInv (iv n) w2)
    rw [invR_yes a0 a1] at HP1 HP2
    rw [HB.out] at HP3
    obtain ⟨q, hq⟩ : ∃ q, q = iv n := ⟨_, rfl⟩; rw [← hq] at HP1 HP2 HP3 hi hi1 hm
    have hb := mulB (show 0 ≤ n by omega) a1 hi.1 (show q ≤ 251 by omega)
    have hd : (n * q % 251 == 1) = true := by rw [beq_iff_eq]; exact hm
    have hne : ((q : Int) != q) = false := by simp
    have hlt : ¬ q < 0 := by omega
    have hnn : ((n : Int) == n) = true := by simp
    clear hq HB h0 hm
    go_wp2_with fail; refine (HP1.out _).mono ?_; rintro e w' ⟨rfl, rfl⟩
    go_wp2_with fail; refine (HP2.out _).mono ?_; rintro e w' ⟨rfl, rfl⟩
    go_wp2_with fail; refine (HP3.out _).mono ?_; rintro e w' ⟨rfl, rfl⟩
    go_wp2
    go_ret
    exact ⟨rfl, E1⟩
  · have hne : ((invR n : Int) != invR n) = false := by simp
    have hq : ((invR n : Int) == invR n) = true := by simp
    obtain ⟨y, hy⟩ : ∃ y, y = invR n := ⟨_, rfl⟩; rw [← hy] at HP1 HP2 h0 hne hq
    clear hy
    have hlt : y < 0 := by omega
    go_wp2_with fail; refine (HP1.out _).mono ?_; rintro e w' ⟨rfl, rfl⟩
    go_wp2_with fail; refine (HP2.out _).mono ?_; rintro e w' ⟨rfl, rfl⟩
    go_wp2_with fail; refine (HP2.out _).mono ?_; rintro e w' ⟨rfl, rfl⟩
    go_wp2
    go_ret
    exact ⟨rfl, E1⟩
set_option maxRecDepth 100000 in
set_option maxHeartbeats 1600000 in
theorem walkFnPolyAt (w : World) (sa : Option Addr) (len cap : Nat) (h : Code w sa len cap) (hl : len ≤ maxLen) :
    Calls Try.prog 6 #[.slice sa len cap] w fun e w' => e = .returned (.bool true) ∧ Below w.heap.size w w' := by
  have hl' := hl
  unfold maxLen at hl'
  by_cases hbig : 1048576 < len
  · clear h hl
    go_enter Try.func6, Try.ntmps6
    go_wp2
    go_ret
    exact ⟨rfl, Below.refl _ _⟩
  go_enter Try.func6, Try.ntmps6
  go_wp2_with fail
  refine (dDrawPolyAt sa len cap w h hl).mono ?_
  rintro e w1 ⟨sl, cl, l, x, rfl, R, nl, x0, x1, E1⟩
  clear h hl hl' hbig
  have hcap := R.cap
  have HL := hide R.lst
  clear R
  have HP1 := hide (fun w2 (e : Ext w1 w2) => implPolyAt sl cl l x w2 (HL.out.ext e) (by omega))
  have HP2 := hide (fun w2 (e : Ext w1 w2) => specPolyAt sl cl l x w2 (HL.out.ext e) (by omega))
  by_cases h0 : 0 ≤ paR l x
  · obtain ⟨hc, hx⟩ := pa_facts h0
    by_cases hn : 0 < l.length
    · obtain ⟨s1, s2, s3, s4⟩ := pa_split hc hx hn
      have hx2 := inr_iff.1 hx
      have HP3 := hide (fun w2 (e : Ext w1 w2) => implPolyAt sl cl l 0 w2 (HL.out.ext e) (by omega))
      rw [s2] at HP3
      obtain ⟨g, off, rfl, hg, hcz⟩ := HL.out.cells hn
      have q0 := hcz 0 hn
      rw [Nat.add_zero] at q0
      have r0 := cell_regrown q0
      have HT := hide ((show Lst w1 (some ⟨g, off, none⟩) l from HL.out).drop 1)
      have hTl : (l.drop 1).length = l.length - 1 := by rw [List.length_drop]
      have hl1 : (1 : Int) ≤ (l.length : Int) := by omega
      have hc1 : (1 : Int) ≤ (cl : Int) := by omega
      have hne0 : ((l.length : Int) == 0) = false := by rw [beq_eq_false_iff_ne]; omega
      have HPA := hide (fun s c w2 (h : Lst w2 s (l.drop 1)) => implPolyAt s c (l.drop 1) x w2 h (by omega))
      rw [s1] at HP1 HP2
      obtain ⟨t, ht⟩ : ∃ t, t = paR (l.drop 1) x := ⟨_, rfl⟩; rw [← ht] at HP1 HP2 HPA s3
      obtain ⟨D, hD⟩ : ∃ D, D = l.drop 1 := ⟨_, rfl⟩; rw [← hD] at HPA HT hTl
      obtain ⟨a, ha⟩ : ∃ a, a = l.getD 0 0 := ⟨_, rfl⟩; rw [← ha] at HP1 HP2 HP3 r0 s4
      clear ht hD ha hcz q0 s1 s2 h0
      have hb := mulB hx2.1 hx2.2 s3.1 (show t ≤ 251 by omega)
      obtain ⟨v, hv⟩ : ∃ v, v = (a + x * t) % 251 := ⟨_, rfl⟩
      rw [← hv] at HP1 HP2
      have hv0 : ¬ v < 0 := by omega
      have hvv : ((v : Int) != v) = false := by simp
      have hvd : ((v : Int) == v) = true := by simp
      have haa : ((a : Int) == a) = true := by simp
      have hs1 : IntKind.i64.wrap (x * t) = x * t := IntWalk.i64_in _ (by omega)
      have hs2 : IntKind.i64.wrap (a + x * t) = a + x * t := IntWalk.i64_in _ (by omega)
      have hs3 : (a + x * t).tmod 251 = v := by rw [Int.tmod_eq_emod_of_nonneg (by omega)]; exact hv.symm
      have hs4 : (a + x * t) % 251 = v := hv.symm
      clear hv
      by_cases hc2 : cl = 1
      · have hD0 : D.length = 0 := by omega
        have hll : l.length = 1 := by omega
        have HP4 := hide (fun w2 (e : Ext w1 w2) => HPA.out (some ⟨g, off, none⟩) 0 w2 (.inl (List.length_eq_zero_iff.1 hD0)))
        rw [hD0] at HP4
        clear HPA hTl hD0
        rw [hll] at HP1 HP2 HP3 hl1 hne0 ⊢
        subst hc2
        have C3 := hide fun d os => HP3.out (grow (redrawn w1 d) os) (below_regrown _ _ _)
        have C4 := hide fun d os => HP4.out (grow (redrawn w1 d) os) (below_regrown _ _ _)
        clear HP3 HP4
        go_wp2_with fail; refine (HP1.out _ (Ext.refl _)).mono ?_; rintro e w' ⟨rfl, rfl⟩
        go_wp2_with fail; refine (HP2.out _ (Ext.refl _)).mono ?_; rintro e w' ⟨rfl, rfl⟩
        go_wp2
        refine wp_region_quiet_below (by kernel_rfl) (by kernel_rfl) ?_
        repeat (go_big_quiet_step (first | (go_at_call 20; with_reducible exact Same.quiet (C3.out _ _)) | (go_at_call 20; with_reducible exact Same.quiet (C4.out _ _))))
        refine wpQuiet_nil ?_; intro w2 hq; have E2 := Ext.class hq; clear hq
        go_wp2
        go_ret
        exact ⟨rfl, E1.trans E2⟩
      · have hc3 : ¬ 1 = cl := fun e => hc2 e.symm
        have HP4 := hide (fun w2 (e : Ext w1 w2) => HPA.out (some ⟨g, off + 1, none⟩) (cl - 1) w2 (HT.out.ext e))
        rw [hTl] at HP4
        clear HPA hTl
        have C3 := hide fun d os => HP3.out (grow (redrawn w1 d) os) (below_regrown _ _ _)
        have C4 := hide fun d os => HP4.out (grow (redrawn w1 d) os) (below_regrown _ _ _)
        clear HP3 HP4
        go_wp2_with fail; refine (HP1.out _ (Ext.refl _)).mono ?_; rintro e w' ⟨rfl, rfl⟩
        go_wp2_with fail; refine (HP2.out _ (Ext.refl _)).mono ?_; rintro e w' ⟨rfl, rfl⟩
        go_wp2
        refine wp_region_quiet_below (by kernel_rfl) (by kernel_rfl) ?_
        repeat (go_big_quiet_step (first | (go_at_call 20; with_reducible exact Same.quiet (C3.out _ _)) | (go_at_call 20; with_reducible exact Same.quiet (C4.out _ _))))
        refine wpQuiet_nil ?_; intro w2 hq; have E2 := Ext.class hq; clear hq
        go_wp2
        go_ret
        exact ⟨rfl, E1.trans E2⟩
    · have hn0 : l = [] := List.length_eq_zero_iff.1 (by omega)
      have hne : ((paR l x : Int) != paR l x) = false := by simp
      have hq : ((paR l x : Int) == paR l x) = true := by simp
      obtain ⟨y, hy⟩ : ∃ y, y = paR l x := ⟨_, rfl⟩; rw [← hy] at HP1 HP2 h0 hne hq
      subst hn0
      clear hy
      have hlt : ¬ y < 0 := by omega
      go_wp2_with fail; refine (HP1.out _ (Ext.refl _)).mono ?_; rintro e w' ⟨rfl, rfl⟩
      go_wp2_with fail; refine (HP2.out _ (Ext.refl _)).mono ?_; rintro e w' ⟨rfl, rfl⟩
      go_wp2_with fail; refine (HP2.out _ (Ext.refl _)).mono ?_; rintro e w' ⟨rfl, rfl⟩
      go_wp2
      go_ret
      exact ⟨rfl, E1⟩
  · have hne : ((paR l x : Int) != paR l x) = false := by simp
    have hq : ((paR l x : Int) == paR l x) = true := by simp
    obtain ⟨y, hy⟩ : ∃ y, y = paR l x := ⟨_, rfl⟩; rw [← hy] at HP1 HP2 h0 hne hq
    clear hy
    have hlt : y < 0 := by omega
    go_wp2_with fail; refine (HP1.out _ (Ext.refl _)).mono ?_; rintro e w' ⟨rfl, rfl⟩
    go_wp2_with fail; refine (HP2.out _ (Ext.refl _)).mono ?_; rintro e w' ⟨rfl, rfl⟩
    go_wp2_with fail; refine (HP2.out _ (Ext.refl _)).mono ?_; rintro e w' ⟨rfl, rfl⟩
    go_wp2
    go_ret
    exact ⟨rfl, E1⟩
set_option maxRecDepth 100000 in
set_option maxHeartbeats 800000 in
theorem walkFnValidShares (w : World) (sa : Option Addr) (len cap : Nat) (h : Code w sa len cap) (hl : len ≤ maxLen) :
    Calls Try.prog 9 #[.slice sa len cap] w fun e w' => e = .returned (.bool true) ∧ Below w.heap.size w w' := by
  have hl' := hl
  unfold maxLen at hl'
  by_cases hbig : 1048576 < len
  · clear h hl
    go_enter Try.func9, Try.ntmps9
    go_wp2
    go_ret
    exact ⟨rfl, Below.refl _ _⟩
  go_enter Try.func9, Try.ntmps9
  go_wp2_with fail
  refine (dDrawValidShares sa len cap w h hl).mono ?_
  rintro e w1 ⟨sl, cl, l, rfl, R, nl, E1⟩
  clear h hl hl' hbig
  have hcap := R.cap
  have HL := hide R.sst
  clear R
  have HP1 := hide (fun w2 (e : Ext w1 w2) => implVS sl cl l.length l w2 (HL.out.ext e) rfl (by omega))
  have HP2 := hide (fun w2 (e : Ext w1 w2) => specVS sl cl l.length l w2 (HL.out.ext e) rfl (by omega))
  by_cases hv : svOk l
  · rw [svB_yes hv] at HP1 HP2
    have HV := hide (fun i => svB_yes (hv.sub (drp_sub l i)))
    have HDL := hide (fun i (hi : i < l.length) => drp_len (ll := l) hi)
    clear hv
    go_wp2_with fail; refine (HP1.out _ (Ext.refl _)).mono ?_; rintro e w2 ⟨rfl, E2⟩
    go_wp2_with fail; refine (HP2.out _ E2).mono ?_; rintro e w3 ⟨rfl, E3⟩
    have E13 := E1.trans (E2.trans E3)
    have E23 := E2.trans E3
    clear E2 E3
    go_wp2
    go_loopw [5] (fun i wr => ∃ k : Nat, k ≤ l.length ∧ i = .int .i64 k ∧ Ext w1 wr) (fun i _ => l.length - (intOf i).toNat)
    case atStart => exact ⟨0, Nat.zero_le _, rfl, E23⟩
    case round =>
      obtain ⟨k, hk, rfl, hE⟩ := hrel
      by_cases hlt : k < l.length
      · have hki : (k : Int) < (l.length : Int) := by omega
        go_wp2_with fail; refine (lawDrop sl cl l.length k l _ (HL.out.ext hE) rfl (by omega) hcap hlt).mono ?_; rintro e w4 ⟨s4, c4, rfl, R4, E4⟩
        have HR4 := hide R4.sst
        have hdl : (drp l k).length ≤ 8 := by rw [HDL.out k hlt]; omega
        have HVk := hide (HV.out k)
        obtain ⟨D, hD⟩ : ∃ D, D = drp l k := ⟨_, rfl⟩; rw [← hD] at HR4 hdl HVk ⊢
        clear hD R4
        go_wp2_with fail; refine (Ret.eqB (implVS s4 c4 D.length D _ HR4.out rfl (by omega)) HVk.out).mono ?_; rintro e w5 ⟨rfl, E5⟩
        go_wp2
        go_roundw
        case rel => exact ⟨k + 1, by omega, by go_num, hE.trans (E4.trans E5)⟩
        case measure => (first | (simp [intOf]; done) | (simp [intOf]; omega))
      · have hki : decide ((k : Int) < (l.length : Int)) = false := decide_eq_false (by omega)
        go_wp2
        go_ret
        exact ⟨rfl, E1.trans hE⟩
  · rw [svB_no hv] at HP1 HP2
    clear hv
    go_wp2_with fail; refine (HP1.out _ (Ext.refl _)).mono ?_; rintro e w2 ⟨rfl, E2⟩
    go_wp2_with fail; refine (HP2.out _ E2).mono ?_; rintro e w3 ⟨rfl, E3⟩
    go_wp2_with fail; refine (HP2.out _ (E2.trans E3)).mono ?_; rintro e w4 ⟨rfl, E4⟩
    go_wp2
    go_ret
    exact ⟨rfl, E1.trans ((E2.trans E3).trans E4)⟩
theorem svOk.rev {ll : List Sh} (h : svOk ll) : svOk ll.reverse := by
  refine ⟨⟨?_, fun x hx => ?_, ?_⟩, fun y hy => ?_⟩
  · have := h.1.1; rw [xsL_len] at this ⊢; rw [List.length_reverse]; exact this
  · unfold xsL at hx; rw [List.map_reverse, List.mem_reverse] at hx; exact h.1.2.1 x hx
  · unfold xsL; rw [List.map_reverse]; exact List.pairwise_reverse.2 (h.1.2.2.imp fun h e => h e.symm)
  · unfold ysL at hy; rw [List.map_reverse, List.mem_reverse] at hy; exact h.2 y hy
theorem pt_rev {ll : List Sh} (h : svOk ll) (h8 : ll.length ≤ 8) : ptR ll.reverse = ptR ll := by
  rw [ptR_yes h h8, ptR_yes h.rev (by rw [List.length_reverse]; exact h8)]
  have ht := thr_ex h.gd
  exact thr_of h.rev.gd ⟨by rw [List.length_reverse]; exact ht.1, ht.2.1, fun s hs => ht.2.2 s (List.mem_reverse.1 hs)⟩
theorem pt_facts {ll : List Sh} (h : 0 < (ptR ll).length) : svOk ll ∧ ll.length ≤ 8 := by
  by_cases h2 : svOk ll ∧ ll.length ≤ 8
  · exact h2
  · rw [ptR_no h2] at h; simp at h
theorem rev_take {ll : List Sh} {k : Nat} (h : k < ll.length) : [⟨(ll.getD k Sh.z).x, (ll.getD k Sh.z).y⟩] ++ (ll.take k).reverse = (ll.take (k + 1)).reverse := by
  rw [List.take_succ_eq_append_getElem h, List.reverse_append, List.getD_eq_getElem?_getD, List.getElem?_eq_getElem h]; rfl
theorem equalInts_yes (sa sb : Option Addr) (a : List Int) (na ca cb : Nat) (w : World) (ha : Lst w sa a) (hb : Lst w sb a) (hn : a.length = na) (la : na ≤ 2000000) :
    Calls Try.prog 39 #[.slice sa na ca, .slice sb na cb] w (EqRet true w) := by
  subst hn
  exact (equalInts_any sa sb a a ca cb w ha hb la la).mono fun e w' ⟨he, hb⟩ => ⟨by rw [he]; simp, hb⟩
set_option maxRecDepth 100000 in
set_option maxHeartbeats 1600000 in
theorem walkFnPolyThrough (w : World) (sa : Option Addr) (len cap : Nat) (h : Code w sa len cap) (hl : len ≤ maxLen) :
    Calls Try.prog 11 #[.slice sa len cap] w fun e w' => e = .returned (.bool true) ∧ Below w.heap.size w w' := by
  have hl' := hl
  unfold maxLen at hl'
  by_cases hbig : 1048576 < len
  · clear h hl
    go_enter Try.func11, Try.ntmps11
    go_wp2
    go_ret
    exact ⟨rfl, Below.refl _ _⟩
  go_enter Try.func11, Try.ntmps11
  go_wp2_with fail
  refine (dDrawPolyThrough sa len cap w h hl).mono ?_
  rintro e w1 ⟨sl, cl, l, rfl, R, nl, E1⟩
  clear h hl hl' hbig
  have HL := hide R.sst
  clear R
  have HP1 := hide (fun w2 (e : Ext w1 w2) => implPT sl cl l.length l w2 (HL.out.ext e) rfl (by omega))
  have HP2 := hide (fun w2 (e : Ext w1 w2) => specPT sl cl l.length l w2 (HL.out.ext e) rfl (by omega))
  have hp8 := ptR_len l
  by_cases h0 : 0 < (ptR l).length
  · obtain ⟨hv, h8⟩ := pt_facts h0
    have ht := thr_ex hv.gd
    rw [← ptR_yes hv h8] at ht
    have HPV := hide (fun k (hk : k < l.length) => (show paR (ptR l) (l.getD k Sh.z).x = (l.getD k Sh.z).y from by
      have hc : cfB (ptR l) = true := cfB_iff.2 ⟨hp8, ht.2.1⟩
      have hy := hv.gd.y k
      rw [paR_yes hc (inr_iff.2 (hv.gd.x k))]
      exact (pv_is hy.1 hy.2).2 (ht.2.2.at hk)))
    have HBK := hide (pt_rev hv h8)
    have HLN := hide ht.1
    have HPA := hide (fun s c w2 (h : Lst w2 s (ptR l)) x => implPolyAt s c (ptR l) x w2 h (by omega))
    have hPl : (ptR l).length = l.length := ht.1
    clear hv ht
    obtain ⟨P, hP⟩ : ∃ P, P = ptR l := ⟨_, rfl⟩; rw [← hP] at HP1 HP2 hp8 HPV HBK HLN HPA hPl h0
    have hne0 : ((P.length : Int) == 0) = false := by rw [beq_eq_false_iff_ne]; omega
    have hl0 : 0 < l.length := by omega
    clear hP hPl
    go_wp2_with fail; refine (HP1.out _ (Ext.refl _)).mono ?_; rintro e w2 ⟨s2, c2, rfl, R2, hb2⟩
    have E2 := Ext.of hb2; clear hb2
    go_wp2_with fail; refine (HP2.out _ E2).mono ?_; rintro e w3 ⟨s3, c3, rfl, R3, hb3⟩
    have E3 := Ext.of hb3; clear hb3
    go_wp2_with fail; refine (equalInts_yes s2 s3 P P.length c2 c3 _ (R2.lst.ext E3) R3.lst rfl (by omega)).mono ?_; rintro e w4 ⟨rfl, hb4⟩
    have E4 := Ext.of hb4; clear hb4
    have E24 := E3.trans E4
    have E14 := E2.trans E24
    have HL2 := hide R2.lst
    clear R2 R3
    have R0 := (RowS.made w4.heap.size w4 (Nat.le_refl _))
    have EE0 := E24.alloc (.cells #[] 47)
    go_wp2
    go_loopw [5, 6] (fun u i wr => ∃ (k : Nat) (sb : Option Addr) (cb : Nat) (o : List Sh), k ≤ l.length ∧ i = .int .i64 k ∧ u = .slice sb o.length cb ∧ o.length ≤ k ∧ Hid (o = (l.take k).reverse) ∧ RowS w4.heap.size wr sb cb o ∧ w4.heap.size ≤ wr.heap.size ∧ Ext w2 wr) (fun _ i _ => l.length - (intOf i).toNat)
    case atStart => exact ⟨0, _, 0, [], Nat.zero_le _, rfl, rfl, Nat.le_refl _, (show [] = (l.take 0).reverse from rfl), R0, by simp, EE0⟩
    case round =>
      clear R0 EE0
      obtain ⟨k, sb, cb, o, hk, rfl, rfl, ho, HO, hR, hz4, hE⟩ := hrel
      by_cases hlt : k < l.length
      · have hki : (k : Int) < (l.length : Int) := by omega
        obtain ⟨g, off, rfl, hg, q0, q1⟩ := (HL.out.ext (E2.trans hE)).at hlt
        have HS := hide (show [⟨(l.getD k Sh.z).x, (l.getD k Sh.z).y⟩] ++ o = (l.take (k + 1)).reverse by rw [HO.out]; exact rev_take hlt)
        have HC := hide (HPV.out k hlt)
        have HPK := hide (fun w5 (e : Ext w2 w5) => HPA.out s2 c2 w5 (HL2.out.ext e) (l.getD k Sh.z).x)
        rw [HC.out] at HPK
        have HQ := hide (fun w5 (e : Ext wr w5) => And.intro ((e.cell (o := off + k * 2) hg).trans q0) ((e.cell (o := off + k * 2 + 1) hg).trans q1))
        obtain ⟨x, hx⟩ : ∃ x, x = (l.getD k Sh.z).x := ⟨_, rfl⟩; rw [← hx] at q0 HS HPK HQ
        obtain ⟨y, hy⟩ : ∃ y, y = (l.getD k Sh.z).y := ⟨_, rfl⟩; rw [← hy] at q1 HS HPK HQ
        clear hx hy HC HO
        have r0 := cell_regrown q0
        have r1 := cell_regrown q1
        have hyy : ((y : Int) != y) = false := by simp
        go_wp2
        refine wp_region_quiet_below (by kernel_rfl) (by kernel_rfl) ?_
        repeat (go_big_quiet_step ((first | (go_at_call 20; exact Same.quiet (HPK.out _ (hE.trans (below_regrown _ _ _)))))))
        refine wpQuiet_nil ?_; intro w9 hq; have E9 := Ext.class hq; clear hq
        clear r0 r1 q0 q1
        obtain ⟨q0, q1⟩ := HQ.out _ E9
        have hE9 := hE.trans E9
        have hz9 := hE9.size
        have hz49 : w4.heap.size ≤ w9.heap.size := Nat.le_trans hz4 E9.size
        have RO := hide (hR.ext E9)
        have A1 : ArrS (w9.alloc (.cells #[.int .i64 x, .int .i64 y] 47)) w9.heap.size [⟨x, y⟩] := ArrS.new w9 [⟨x, y⟩]
        have R1 : RowS w9.heap.size (w9.alloc (.cells #[.int .i64 x, .int .i64 y] 47)) (some ⟨w9.heap.size, 0, none⟩) 1 [⟨x, y⟩] := A1.row (Nat.le_refl _) (by simp)
        go_wp2_with (first | (at_builtin; refine append_shares rfl (.tmp 52) (.tmp 53) rfl w9.heap.size (w9.alloc (.cells #[.int .i64 x, .int .i64 y] 47)) (some ⟨w9.heap.size, 0, none⟩) sb 1 o.length 1 cb [⟨x, y⟩] o rfl rfl rfl rfl R1 (by omega) (by omega) (by simp) (RO.out.sst.ext ((Ext.refl _).alloc _)) ?_; intro sg c3 w3 R3 hb3; have H3 := hide hb3; clear hb3))
        have E10 := ((Ext.refl w9).alloc (.cells #[.int .i64 x, .int .i64 y] 47)).below H3.out (Nat.le_refl _)
        have R4 := R3.le (base' := w4.heap.size) hz49
        have HS2 := hide (show 1 + o.length = ([⟨x, y⟩] ++ o : List Sh).length by rw [List.length_append]; rfl)
        have hol : ([⟨x, y⟩] ++ o : List Sh).length ≤ k + 1 := by rw [List.length_append]; simp; omega
        clear H3 R3 A1 R1
        go_wp2
        go_roundw
        case rel => exact ⟨k + 1, sg, c3, _, by omega, by go_num, by rw [← HS2.out], hol, HS, R4, Nat.le_trans hz49 E10.size, hE9.trans E10⟩
        case measure => (first | (simp [intOf]; done) | (simp [intOf]; omega))
      · have hkl : k = l.length := by omega
        have hki : decide ((k : Int) < (l.length : Int)) = false := decide_eq_false (by omega)
        have HO2 := hide (show o = l.reverse by rw [HO.out, hkl, List.take_length])
        have HPB := hide (implPT sb cb o.length o _ hR.sst rfl (by omega))
        rw [show ptR o = P by rw [HO2.out]; exact HBK.out] at HPB
        have hll : ((P.length : Int) == (l.length : Int)) = true := eq_len' HLN.out
        clear hkl HO
        go_wp2_with fail; refine (HPB.out).mono ?_; rintro e w6 ⟨s6, c6, rfl, R6, hb6⟩
        have E6 := Ext.of hb6; clear hb6
        go_wp2_with fail; refine (equalInts_yes s6 s2 P P.length c6 c2 _ R6.lst (HL2.out.ext (hE.trans E6)) rfl (by omega)).mono ?_; rintro e w7 ⟨rfl, hb7⟩
        have E7 := Ext.of hb7; clear hb7
        go_wp2
        go_ret
        exact ⟨rfl, E1.trans (E2.trans (hE.trans (E6.trans E7)))⟩
  · have hn0 : ptR l = [] := List.length_eq_zero_iff.1 (by omega)
    rw [hn0] at HP1 HP2
    clear hn0 h0 hp8
    go_wp2_with fail; refine (HP1.out _ (Ext.refl _)).mono ?_; rintro e w2 ⟨s2, c2, rfl, R2, hb2⟩
    have E2 := Ext.of hb2; clear hb2
    go_wp2_with fail; refine (HP2.out _ E2).mono ?_; rintro e w3 ⟨s3, c3, rfl, R3, hb3⟩
    have E3 := Ext.of hb3; clear hb3
    go_wp2_with fail; refine (equalInts_yes s2 s3 [] 0 c2 c3 _ (.inl rfl) (.inl rfl) rfl (by omega)).mono ?_; rintro e w4 ⟨rfl, hb4⟩
    have E4 := Ext.of hb4; clear hb4
    have E14 := E2.trans (E3.trans E4)
    go_wp2_with fail; refine (HP2.out _ E14).mono ?_; rintro e w5 ⟨s5, c5, rfl, R5, hb5⟩
    have E5 := Ext.of hb5; clear hb5
    go_wp2_with fail; refine (equalInts_yes s2 s5 [] 0 c2 c5 _ (.inl rfl) (.inl rfl) rfl (by omega)).mono ?_; rintro e w6 ⟨rfl, hb6⟩
    have E6 := Ext.of hb6; clear hb6
    go_wp2
    go_ret
    exact ⟨rfl, E1.trans (E14.trans (E5.trans E6))⟩
theorem os_facts {ll : List Sh} (h : 0 ≤ osR ll) : svOk ll ∧ 1 ≤ ll.length ∧ ll.length ≤ 8 := by
  by_cases h2 : svOk ll ∧ 1 ≤ ll.length ∧ ll.length ≤ 8
  · exact h2
  · rw [osR_no h2] at h; omega
theorem os_zero {ll : List Sh} (h : svOk ll ∧ 1 ≤ ll.length ∧ ll.length ≤ 8) : paR (ptR ll) 0 = osR ll ∧ 0 ≤ osR ll := by
  have ht := thr_ex h.1.gd
  rw [ptR_yes h.1 h.2.2, osR_yes h]
  have hc : cfB (thr ll) = true := cfB_iff.2 ⟨by rw [ht.1]; exact h.2.2, ht.2.1⟩
  have := pa_split (x := 0) hc (inr_iff.2 (by omega)) (by rw [ht.1]; omega)
  exact ⟨this.2.1, this.2.2.2.1⟩
set_option maxRecDepth 100000 in
set_option maxHeartbeats 800000 in
theorem walkFnOpenSecret (w : World) (sa : Option Addr) (len cap : Nat) (h : Code w sa len cap) (hl : len ≤ maxLen) :
    Calls Try.prog 13 #[.slice sa len cap] w fun e w' => e = .returned (.bool true) ∧ Below w.heap.size w w' := by
  have hl' := hl
  unfold maxLen at hl'
  by_cases hbig : 1048576 < len
  · clear h hl
    go_enter Try.func13, Try.ntmps13
    go_wp2
    go_ret
    exact ⟨rfl, Below.refl _ _⟩
  go_enter Try.func13, Try.ntmps13
  go_wp2_with fail
  refine (dDrawOpenSecret sa len cap w h hl).mono ?_
  rintro e w1 ⟨sl, cl, l, rfl, R, nl, E1⟩
  clear h hl hl' hbig
  have HL := hide R.sst
  clear R
  have HP1 := hide (fun w2 (e : Ext w1 w2) => implOS sl cl l.length l w2 (HL.out.ext e) rfl (by omega))
  have HP2 := hide (fun w2 (e : Ext w1 w2) => specOS sl cl l.length l w2 (HL.out.ext e) rfl (by omega))
  have HP3 := hide (fun w2 (e : Ext w1 w2) => implPT sl cl l.length l w2 (HL.out.ext e) rfl (by omega))
  have hp8 := ptR_len l
  by_cases h0 : 0 ≤ osR l
  · have HZ := hide (os_zero (os_facts h0)).1
    have HPA := hide (fun s c w2 (h : Lst w2 s (ptR l)) => implPolyAt s c (ptR l) 0 w2 h (by omega))
    rw [HZ.out] at HPA
    obtain ⟨P, hP⟩ : ∃ P, P = ptR l := ⟨_, rfl⟩; rw [← hP] at HP3 hp8 HPA
    obtain ⟨y, hy⟩ : ∃ y, y = osR l := ⟨_, rfl⟩; rw [← hy] at HP1 HP2 HPA h0
    clear hP hy HZ
    have hne : ((y : Int) != y) = false := by simp
    have hq : ((y : Int) == y) = true := by simp
    have hlt : ¬ y < 0 := by omega
    go_wp2_with fail; refine (HP1.out _ (Ext.refl _)).mono ?_; rintro e w2 ⟨rfl, E2⟩
    go_wp2_with fail; refine (HP2.out _ E2).mono ?_; rintro e w3 ⟨rfl, E3⟩
    have E13 := E2.trans E3
    go_wp2_with fail; refine (HP3.out _ E13).mono ?_; rintro e w4 ⟨s4, c4, rfl, R4, hb4⟩
    have E4 := Ext.of hb4; clear hb4
    go_wp2_with fail; refine (HPA.out s4 c4 _ R4.lst).mono ?_; rintro e w' ⟨rfl, rfl⟩
    go_wp2
    go_ret
    exact ⟨rfl, E1.trans (E13.trans E4)⟩
  · have hne : ((osR l : Int) != osR l) = false := by simp
    have hq : ((osR l : Int) == osR l) = true := by simp
    obtain ⟨y, hy⟩ : ∃ y, y = osR l := ⟨_, rfl⟩; rw [← hy] at HP1 HP2 h0 hne hq
    clear hy
    have hlt : y < 0 := by omega
    go_wp2_with fail; refine (HP1.out _ (Ext.refl _)).mono ?_; rintro e w2 ⟨rfl, E2⟩
    go_wp2_with fail; refine (HP2.out _ E2).mono ?_; rintro e w3 ⟨rfl, E3⟩
    go_wp2_with fail; refine (HP2.out _ (E2.trans E3)).mono ?_; rintro e w4 ⟨rfl, E4⟩
    go_wp2
    go_ret
    exact ⟨rfl, E1.trans ((E2.trans E3).trans E4)⟩
end Go.Proofs.Ytgmhodmgbhpdaaa
