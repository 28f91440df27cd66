/- Chapter 3: the walks of the laws of net amounts and credit, at drawn arguments. -/
import Derived.Test.YthbkkbcbhhmhoaaDrawQ
import Derived.Test.YthbkkbcbhhmhoaaOrdN
namespace Go.Proofs.Ythbkkbcbhhmhoaa
open Go.ChangeShapes Go.WideShapes Go.ChangeAt Go.RowKit Go.Joins Go.Sort
set_option linter.unusedVariables false

theorem sgK_bd (l : List Int) (h : ∀ i, i < l.length → -120000 ≤ l.getD i 0 ∧ l.getD i 0 ≤ 120000) (k : Nat) (hk : k ≤ l.length) : -120000 * (k : Int) ≤ sgK l k ∧ sgK l k ≤ 120000 * (k : Int) := by
  induction k with
  | zero => simp [sgK]
  | succ k ih =>
    have h1 := ih (by omega)
    have h2 := h k (by omega)
    show _ ≤ sgK l k + l.getD k 0 ∧ sgK l k + l.getD k 0 ≤ _
    omega
set_option maxHeartbeats 400000 in
theorem lawTotalS (sa : Option Addr) (cap n : Nat) (l : List Int) (w : World) (h : Lst w sa l) (hn : l.length = n) (hl : n ≤ 100) (hx : ∀ i, i < l.length → -120000 ≤ l.getD i 0 ∧ l.getD i 0 ≤ 120000) :
    Calls Try.prog 42 #[.slice sa n cap] w (Same (.int .i64 (sgK l n)) w) := by
  subst hn
  have H := hide h; clear h
  have HX := hide hx; clear hx
  have HN : Hid (∀ k, sgK l (k + 1) = sgK l k + l.getD k 0) := hide fun k => rfl
  have HB := hide (sgK_bd l HX.out)
  go_enter Try.func42, Try.ntmps42
  go_wp2
  go_loop [3, 4] (fun a i => ∃ k : Nat, k ≤ l.length ∧ i = .int .i64 k ∧ a = .int .i64 (sgK l k)) (fun _ i => l.length - (intOf i).toNat)
  case atStart => exact ⟨0, Nat.zero_le _, rfl, rfl⟩
  case round =>
    obtain ⟨k, hk, rfl, rfl⟩ := hrel
    have hb := HB.out k hk
    by_cases hlt : k < l.length
    · obtain ⟨g, off, rfl, hg, c1⟩ := H.out.at hlt
      have hc := HX.out k hlt
      have HS := hide (HN.out k)
      obtain ⟨x, hx⟩ : ∃ x, x = l.getD k 0 := ⟨_, rfl⟩; rw [← hx] at c1 hc HS
      obtain ⟨s, hs⟩ : ∃ s, s = sgK l k := ⟨_, rfl⟩; rw [← hs] at hb HS ⊢
      clear hx hs
      go_wp2
      go_round
      case rel => exact ⟨k + 1, by omega, by go_num, by rw [HS.out]⟩
      case measure => simp [intOf]; omega
    · obtain rfl : k = l.length := by omega
      go_wp2
      go_ret
      exact Same.int rfl
set_option maxHeartbeats 400000 in
theorem lawGreatest0 (sa : Option Addr) (cap n : Nat) (l : List Int) (w : World) (h : Lst w sa l) (hn : l.length = n) (hl : n ≤ 100) (hx : ∀ i, i < l.length → l.getD i 0 = 0) :
    Calls Try.prog 41 #[.slice sa n cap] w (Same (.int .i64 0) w) := by
  subst hn
  have H := hide h; clear h
  have HX := hide hx; clear hx
  go_enter Try.func41, Try.ntmps41
  go_wp2
  go_loop [3, 4] (fun a i => ∃ k : Nat, k ≤ l.length ∧ i = .int .i64 k ∧ a = .int .i64 0) (fun _ i => l.length - (intOf i).toNat)
  case atStart => exact ⟨0, Nat.zero_le _, rfl, rfl⟩
  case round =>
    obtain ⟨k, hk, rfl, rfl⟩ := hrel
    by_cases hlt : k < l.length
    · obtain ⟨g, off, rfl, hg, c1⟩ := H.out.at hlt
      rw [HX.out k hlt] at c1
      go_wp2
      go_round
      case rel => exact ⟨k + 1, by omega, by go_num, rfl⟩
      case measure => simp [intOf]; omega
    · obtain rfl : k = l.length := by omega
      go_wp2
      go_ret
      exact Same.int rfl

set_option maxHeartbeats 400000 in
theorem walkFnCreditAfter (w : World) (sa : Option Addr) (len cap : Nat) (h : Code w sa len cap) (hl : len ≤ maxLen) :
    Calls Try.prog 14 #[.slice sa len cap] w fun e w' => e = .returned (.bool true) ∧ Below w.heap.size w w' := by
  have hl' := hl
  unfold maxLen at hl'
  by_cases hbig : 1048576 < len
  · clear h hl
    go_enter Try.func14, Try.ntmps14
    go_wp2
    go_ret
    exact ⟨rfl, Below.refl _ _⟩
  · go_enter Try.func14, Try.ntmps14
    go_wp2_with fail
    refine (dDrawCreditAfter sa len cap w h hl).mono ?_
    rintro e w1 ⟨sb, cb, l, p, r, rfl, hR, l12, p0, p1, r0, r1, E1⟩
    have HL := hide hR.lst
    have hcap := hR.cap
    clear h hl hl' hbig hR
    have HP1 := hide (fun r w2 (e : Ext w1 w2) => implCredit sb cb l p r w2 (HL.out.ext e) (by omega) hcap)
    have HP2 := hide (fun r w2 (e : Ext w1 w2) => specCredit sb cb l p r w2 (HL.out.ext e) (by omega) hcap)
    by_cases hok : netOk l p r
    · have hok2 : netOk l p ((l.length : Int) - r) := ⟨hok.1, hok.2.1, by have := hok.2.2; omega, by have := hok.2.2; omega⟩
      have v1 := crd_val hok
      have v2 := crd_val hok2
      have e2 : p * ((l.length : Int) - r) * ((l.length : Int) - ((l.length : Int) - r)) = p * r * ((l.length : Int) - r) := by
        rw [show (l.length : Int) - ((l.length : Int) - r) = r by omega, Int.mul_assoc, Int.mul_assoc, Int.mul_comm ((l.length : Int) - r)]
      rw [e2] at v2
      have hp := hok.2.1
      have hr := hok.2.2
      have b1 := prod_bd hp.1 hp.2 hr.1 (show r ≤ 12 by omega)
      have b2 := prod_bd (m := p * r) (p := (l.length : Int) - r) (a := 120000) (b := 12) b1.1 (by omega) (by omega) (by omega)
      have HQ1 := hide (HP1.out r)
      have HQ2 := hide (HP2.out r)
      have HQ3 := hide (HP1.out ((l.length : Int) - r))
      rw [v1] at HQ1 HQ2
      rw [v2] at HQ3
      have hd1 : ((p * r * ((l.length : Int) - r) : Int) != p * r * ((l.length : Int) - r)) = false := by simp
      have hd2 : ((p * r * ((l.length : Int) - r) : Int) == p * r * ((l.length : Int) - r)) = true := by simp
      clear hok hok2 v1 v2 e2 HP1 HP2
      go_wp2_with fail; refine (HQ1.out _ (Ext.refl _)).mono ?_; rintro e w2 ⟨rfl, E2⟩
      go_wp2_with fail; refine (HQ2.out _ E2).mono ?_; rintro e w3 ⟨rfl, E3⟩
      go_wp2_with fail; refine (HQ3.out _ (E2.trans E3)).mono ?_; rintro e w4 ⟨rfl, E4⟩
      have E := E1.trans ((E2.trans E3).trans E4)
      go_wp2
      go_ret
      exact ⟨rfl, E⟩
    · have HQ1 := hide (HP1.out r)
      have HQ2 := hide (HP2.out r)
      rw [crd_no hok] at HQ1 HQ2
      clear hok
      go_wp2_with fail; refine (HQ1.out _ (Ext.refl _)).mono ?_; rintro e w2 ⟨rfl, E2⟩
      go_wp2_with fail; refine (HQ2.out _ E2).mono ?_; rintro e w3 ⟨rfl, E3⟩
      go_wp2_with fail; refine (HQ2.out _ (E2.trans E3)).mono ?_; rintro e w4 ⟨rfl, E4⟩
      have E := E1.trans ((E2.trans E3).trans E4)
      go_wp2
      go_ret
      exact ⟨rfl, E⟩
set_option maxHeartbeats 1000000 in
theorem walkFnNetAfter (w : World) (sa : Option Addr) (len cap : Nat) (h : Code w sa len cap) (hl : len ≤ maxLen) :
    Calls Try.prog 13 #[.slice sa len cap] w fun e w' => e = .returned (.bool true) ∧ Below w.heap.size w w' := by
  have hl' := hl
  unfold maxLen at hl'
  by_cases hbig : 1048576 < len
  · clear h hl
    go_enter Try.func13, Try.ntmps13
    go_wp2
    go_ret
    exact ⟨rfl, Below.refl _ _⟩
  · go_enter Try.func13, Try.ntmps13
    go_wp2_with fail
    refine (dDrawNetAfter sa len cap w h hl).mono ?_
    rintro e w1 ⟨sb, cb, l, p, r, rfl, hR, l12, p0, p1, r0, r1, E1⟩
    have HL := hide hR.lst
    have hcap := hR.cap
    clear h hl hl' hbig hR
    have HP1 := hide (fun w2 (e : Ext w1 w2) => implNet sb cb l p r w2 (HL.out.ext e) (by omega) hcap)
    have HP2 := hide (fun w2 (e : Ext w1 w2) => specNet sb cb l p r w2 (HL.out.ext e) (by omega) hcap)
    have HBD := hide (netL_bd l p r)
    have hLl := netL_len l p r
    have hEQ := fun sa ca sb cb w2 ha hb => equalInts_any sa sb (netL l p r) (netL l p r) ca cb w2 ha hb (by omega) (by omega)
    rw [decide_eq_true (rfl : netL l p r = netL l p r)] at hEQ
    have HEQ := hide hEQ
    clear hEQ
    by_cases hok : netOk l p r
    · have hlen : (netL l p r).length = l.length := by rw [netL_yes hok, netT_len]
      have hl0 := (vo_facts hok.1).1.1
      have HSM := net_sum hok
      by_cases hz : r = 0 ∨ r = (l.length : Int)
      · have HA := hide (net_all hok hz)
        obtain ⟨L, hL⟩ : ∃ L, L = netL l p r := ⟨_, rfl⟩; rw [← hL] at HP1 HP2 HEQ HBD HSM HA hlen hLl
        have HG := hide (fun s c w2 (h : Lst w2 s L) => lawGreatest0 s c L.length L w2 h rfl (by omega) (fun i hi => HA.out i (by omega)))
        have HT := hide (fun s c w2 (h : Lst w2 s L) => lawTotalS s c L.length L w2 h rfl (by omega) (fun i hi => HBD.out i hi))
        rw [hlen, HSM, ← hlen] at HT
        have hne : ((L.length : Int) == 0) = false := by rw [beq_eq_false_iff_ne]; omega
        have HLEN := hide hlen; clear hlen
        clear hL HSM hok
        go_wp2_with fail; refine (HP1.out _ (Ext.refl _)).mono ?_; rintro e w2 ⟨s2, c2, rfl, R2, hb2⟩
        have E2 := Ext.of hb2
        go_wp2_with fail; refine (HP2.out _ E2).mono ?_; rintro e w3 ⟨s3, c3, rfl, R3, hb3⟩
        have E3 := Ext.of hb3
        have L2 := hide (R2.lst.ext E3)
        have L3 := hide R3.lst
        clear hb2 hb3 R2 R3
        go_wp2_with fail; refine (HEQ.out s2 c2 s3 c3 _ L2.out L3.out).mono ?_; rintro e w4 ⟨rfl, hb4⟩
        have E4 := Ext.of hb4
        clear hb4
        have L4 := hide (L2.out.ext E4)
        have E := E1.trans ((E2.trans E3).trans E4)
        by_cases h0 : r = 0
        · have hd1 : (r == 0) = true := by rw [beq_iff_eq]; exact h0
          clear h0 hz
          go_wp2_with fail
          refine (HG.out s2 c2 _ L4.out).mono ?_; rintro e w' ⟨rfl, rfl⟩
          go_wp2_with fail
          refine (HT.out s2 c2 _ L4.out).mono ?_; rintro e w' ⟨rfl, rfl⟩
          go_wp2
          go_ret
          exact ⟨rfl, E⟩
        · have hd1 : (r == 0) = false := by rw [beq_eq_false_iff_ne]; exact h0
          have hd2 : (r == (l.length : Int)) = true := by rw [beq_iff_eq]; omega
          clear h0 hz
          go_wp2_with fail
          refine (HG.out s2 c2 _ L4.out).mono ?_; rintro e w' ⟨rfl, rfl⟩
          go_wp2_with fail
          refine (HT.out s2 c2 _ L4.out).mono ?_; rintro e w' ⟨rfl, rfl⟩
          go_wp2
          go_ret
          exact ⟨rfl, E⟩
      · have hd1 : (r == 0) = false := by rw [beq_eq_false_iff_ne]; omega
        have hd2 : (r == (l.length : Int)) = false := by rw [beq_eq_false_iff_ne]; omega
        obtain ⟨c, hc, hcl⟩ := vo_at hok.1 (show 0 < l.length by omega)
        obtain ⟨d, hd, hdl⟩ := vo_at hok.1 (show l.length - 1 < l.length by omega)
        have hge := net_first hok (by omega) (by omega) hc hd hcl hdl
        obtain ⟨L, hL⟩ : ∃ L, L = netL l p r := ⟨_, rfl⟩; rw [← hL] at HP1 HP2 HEQ HBD HSM hlen hLl hge
        have HT := hide (fun s c w2 (h : Lst w2 s L) => lawTotalS s c L.length L w2 h rfl (by omega) (fun i hi => HBD.out i hi))
        rw [hlen, HSM, ← hlen] at HT
        have hne : ((L.length : Int) == 0) = false := by rw [beq_eq_false_iff_ne]; omega
        have hLl0 : 0 < l.length := by omega
        have hcL : c < L.length := by omega
        have hdL : d < L.length := by omega
        have HLEN := hide hlen; clear hlen
        have HC := hide hc; clear hc
        have HD := hide hd; clear hd
        clear hL HSM hok hz
        go_wp2_with fail; refine (HP1.out _ (Ext.refl _)).mono ?_; rintro e w2 ⟨s2, c2, rfl, R2, hb2⟩
        have E2 := Ext.of hb2
        go_wp2_with fail; refine (HP2.out _ E2).mono ?_; rintro e w3 ⟨s3, c3, rfl, R3, hb3⟩
        have E3 := Ext.of hb3
        have L2 := hide (R2.lst.ext E3)
        have L3 := hide R3.lst
        clear hb2 hb3 R2 R3
        go_wp2_with fail; refine (HEQ.out s2 c2 s3 c3 _ L2.out L3.out).mono ?_; rintro e w4 ⟨rfl, hb4⟩
        have E4 := Ext.of hb4
        clear hb4
        have L4 := hide (L2.out.ext E4)
        have E := E1.trans ((E2.trans E3).trans E4)
        obtain ⟨g1, off1, rfl, hg1, k1⟩ := (HL.out.ext ((E2.trans E3).trans E4)).at (k := 0) (by omega)
        obtain ⟨g1', off1', e, _, k2⟩ := (HL.out.ext ((E2.trans E3).trans E4)).at (k := l.length - 1) (by omega)
        cases e
        obtain ⟨g2, off2, rfl, hg2, k3⟩ := L4.out.at (k := c) hcL
        obtain ⟨g2', off2', e, _, k4⟩ := L4.out.at (k := d) hdL
        cases e
        rw [HC.out, Nat.add_zero] at k1
        rw [HD.out] at k2
        obtain ⟨x, hx⟩ : ∃ x, x = L.getD c 0 := ⟨_, rfl⟩; rw [← hx] at k3 hge
        obtain ⟨y, hy⟩ : ∃ y, y = L.getD d 0 := ⟨_, rfl⟩; rw [← hy] at k4 hge
        have hd3 : decide (y ≤ x) = true := decide_eq_true hge
        have HCT := hide (fun (dd : Nat) (os : Array Obj) => HT.out (some ⟨g2, off2, none⟩) c2 (grow (redrawn w4 dd) os) (L4.out.ext (below_regrown _ _ _)))
        have q1 := cell_regrown k1
        have q2 := cell_regrown k2
        have q3 := cell_regrown k3
        have q4 := cell_regrown k4
        have ht1 : ((l.length : Int) - 1).toNat = l.length - 1 := by omega
        have i1 : (0 : Int) ≤ (l.length : Int) - 1 := by omega
        have i2 : (l.length : Int) - 1 < (l.length : Int) := by omega
        have i3 : l.length - 1 < l.length := by omega
        have i4 : 0 < l.length := by omega
        have hw1 : IntKind.i64.wrap ((l.length : Int) - 1) = (l.length : Int) - 1 := IntWalk.i64_in _ (by omega)
        clear hx hy hge
        go_wp2
        refine wp_region_quiet_below (by kernel_rfl) (by kernel_rfl) ?_
        repeat (go_big_quiet_step ((first | (go_at_call 42; exact Same.quiet (HCT.out _ _)))))
        refine wpQuiet_nil ?_; intro w9 hq; have E9 := Ext.class hq; clear hq
        go_wp2
        go_ret
        exact ⟨rfl, E.trans E9⟩
    · have hnil := netL_no hok
      rw [hnil] at HP1 HP2 HEQ
      clear hok hnil HBD hLl
      go_wp2_with fail; refine (HP1.out _ (Ext.refl _)).mono ?_; rintro e w2 ⟨s2, c2, rfl, R2, hb2⟩
      have E2 := Ext.of hb2
      go_wp2_with fail; refine (HP2.out _ E2).mono ?_; rintro e w3 ⟨s3, c3, rfl, R3, hb3⟩
      have E3 := Ext.of hb3
      have L2 := hide (R2.lst.ext E3)
      have L3 := hide R3.lst
      clear hb2 hb3 R2 R3
      go_wp2_with fail; refine (HEQ.out s2 c2 s3 c3 _ L2.out L3.out).mono ?_; rintro e w4 ⟨rfl, hb4⟩
      have E4 := Ext.of hb4
      clear hb4
      go_wp2_with fail; refine (HP2.out _ ((E2.trans E3).trans E4)).mono ?_; rintro e w5 ⟨s5, c5, rfl, R5, hb5⟩
      have E5 := Ext.of hb5
      have L5 := hide R5.lst
      have L6 := hide ((L2.out.ext E4).ext E5)
      clear hb5 R5
      go_wp2_with fail; refine (HEQ.out s2 c2 s5 c5 _ L6.out L5.out).mono ?_; rintro e w6 ⟨rfl, hb6⟩
      have E6 := Ext.of hb6
      clear hb6
      have E := E1.trans (((E2.trans E3).trans E4).trans (E5.trans E6))
      go_wp2
      go_ret
      exact ⟨rfl, E⟩
end Go.Proofs.Ythbkkbcbhhmhoaa
