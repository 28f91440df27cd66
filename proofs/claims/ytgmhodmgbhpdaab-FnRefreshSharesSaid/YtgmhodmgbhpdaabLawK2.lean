/- Chapter 4: the walks of the laws of shares that fit, of a wrong share, of added and refreshed shares, of a polynomial with a secret, at drawn arguments. -/
import Derived.Test.YtgmhodmgbhpdaabDrawM
import Derived.Test.YtgmhodmgbhpdaabShr8
import Derived.Test.YtgmhodmgbhpdaabShr10
import Derived.Test.YtgmhodmgbhpdaabShr11
import Derived.Test.YtgmhodmgbhpdaabLawK0
namespace Go.Proofs.Ytgmhodmgbhpdaab
open Go.ChangeShapes Go.WideShapes Go.ChangeAt Go.RowKit Go.Joins Go.Sort
set_option linter.unusedVariables false

set_option maxRecDepth 100000 in
set_option maxHeartbeats 1600000 in
theorem walkFnAddShares (w : World) (sa : Option Addr) (len cap : Nat) (h : Code w sa len cap) (hl : len ≤ maxLen) :
    Calls Try.prog 8 #[.slice sa len cap] w fun e w' => e = .returned (.bool true) ∧ Below w.heap.size w w' := by
  have hl' := hl
  unfold maxLen at hl'
  by_cases hbig : 1048576 < len
  · clear h hl
    go_enter Try.func8, Try.ntmps8
    go_wp2
    go_ret
    exact ⟨rfl, Below.refl _ _⟩
  go_enter Try.func8, Try.ntmps8
  go_wp2_with fail
  refine (dDrawAddShares sa len cap w h hl).mono ?_
  rintro e w1 ⟨sl, cl, a, sm, cm, b, rfl, RA, RB, na, nb, E1⟩
  clear h hl hl' hbig
  have HL := hide RA.sst
  have HM := hide RB.sst
  clear RA RB
  have HP1 := hide (fun w2 (e : Ext w1 w2) => implAdd sl sm cl cm a.length b.length a b w2 (HL.out.ext e) (HM.out.ext e) rfl rfl (by omega) (by omega))
  have HP2 := hide (fun w2 (e : Ext w1 w2) => specAdd sl sm cl cm a.length b.length a b w2 (HL.out.ext e) (HM.out.ext e) rfl rfl (by omega) (by omega))
  have HOA := hide (fun w2 (e : Ext w1 w2) => implOS sl cl a.length a w2 (HL.out.ext e) rfl (by omega))
  have HOB := hide (fun w2 (e : Ext w1 w2) => implOS sm cm b.length b w2 (HM.out.ext e) rfl (by omega))
  have hol := asR_len a b
  have HS := hide (@as_sum a b)
  by_cases h0 : 0 < (asR a b).length
  · obtain ⟨hok, hos, ho1, ho2⟩ := HS.out h0 (by omega)
    have HOK := hide hok
    have HOS := hide hos
    obtain ⟨o, ho⟩ : ∃ o, o = asR a b := ⟨_, rfl⟩; rw [← ho] at HP1 HP2 hol HOK HOS h0
    obtain ⟨x, hx⟩ : ∃ x, x = osR a := ⟨_, rfl⟩; rw [← hx] at HOA HOS ho1
    obtain ⟨y, hy⟩ : ∃ y, y = osR b := ⟨_, rfl⟩; rw [← hy] at HOB HOS ho2
    have hne0 : ((o.length : Int) == 0) = false := by rw [beq_eq_false_iff_ne]; omega
    have h8 : ¬ (8 : Int) < (o.length : Int) := by omega
    have hs1 : IntKind.i64.wrap (x + y) = x + y := IntWalk.i64_in _ (by omega)
    obtain ⟨z, hz⟩ : ∃ z, z = (x + y) % 251 := ⟨_, rfl⟩
    have HZO := hide (show osR o = z by rw [HOS.out, hz])
    have hzz : ((z : Int) == (x + y) % 251) = true := by rw [hz]; simp
    clear ho hx hy hos hok HS HOS hz
    go_wp2_with fail; refine (HP1.out _ (Ext.refl _)).mono ?_; rintro e w2 ⟨s2, c2, rfl, R2, E2⟩
    go_wp2_with fail; refine (HP2.out _ E2).mono ?_; rintro e w3 ⟨s3, c3, rfl, R3, E3⟩
    go_wp2_with fail; refine (equalShares_yes s2 s3 o o.length c2 c3 _ (R2.sst.ext E3) R3.sst rfl (by omega)).mono ?_; rintro e w4 ⟨rfl, E4⟩
    have E24 := E3.trans E4
    have HR2 := hide (R2.sst.ext E24)
    have E14 := E2.trans E24
    clear R2 R3
    go_wp2_with fail; refine (Ret.eqB (implVS s2 c2 o.length o _ HR2.out rfl (by omega)) (svB_yes HOK.out)).mono ?_; rintro e w5 ⟨rfl, E5⟩
    go_wp2_with fail; refine (implOS s2 c2 o.length o _ (HR2.out.ext E5) rfl (by omega)).mono ?_; rintro e w6 ⟨rfl, E6⟩
    rw [HZO.out]
    go_wp2_with fail; refine (HOA.out _ (E14.trans (E5.trans E6))).mono ?_; rintro e w7 ⟨rfl, E7⟩
    go_wp2_with fail; refine (HOB.out _ ((E14.trans (E5.trans E6)).trans E7)).mono ?_; rintro e w8 ⟨rfl, E8⟩
    go_wp2
    go_ret
    exact ⟨rfl, E1.trans (((E14.trans (E5.trans E6)).trans E7).trans E8)⟩
  · have hn0 : asR a b = [] := List.length_eq_zero_iff.1 (by omega)
    rw [hn0] at HP1 HP2
    clear hn0 h0 hol HS
    go_wp2_with fail; refine (HP1.out _ (Ext.refl _)).mono ?_; rintro e w2 ⟨s2, c2, rfl, R2, E2⟩
    go_wp2_with fail; refine (HP2.out _ E2).mono ?_; rintro e w3 ⟨s3, c3, rfl, R3, E3⟩
    go_wp2_with fail; refine (equalShares_yes s2 s3 [] 0 c2 c3 _ (.inl rfl) (.inl rfl) rfl (by omega)).mono ?_; rintro e w4 ⟨rfl, E4⟩
    have E14 := E2.trans (E3.trans E4)
    go_wp2_with fail; refine (HP2.out _ E14).mono ?_; rintro e w5 ⟨s5, c5, rfl, R5, E5⟩
    go_wp2_with fail; refine (equalShares_yes s2 s5 [] 0 c2 c5 _ (.inl rfl) (.inl rfl) rfl (by omega)).mono ?_; rintro e w6 ⟨rfl, E6⟩
    go_wp2
    go_ret
    exact ⟨rfl, E1.trans (E14.trans (E5.trans E6))⟩
set_option maxRecDepth 100000 in
set_option maxHeartbeats 1600000 in
theorem walkFnRefreshShares (w : World) (sa : Option Addr) (len cap : Nat) (h : Code w sa len cap) (hl : len ≤ maxLen) :
    Calls Try.prog 10 #[.slice sa len cap] w fun e w' => e = .returned (.bool true) ∧ Below w.heap.size w w' := by
  have hl' := hl
  unfold maxLen at hl'
  by_cases hbig : 1048576 < len
  · clear h hl
    go_enter Try.func10, Try.ntmps10
    go_wp2
    go_ret
    exact ⟨rfl, Below.refl _ _⟩
  go_enter Try.func10, Try.ntmps10
  go_wp2_with fail
  refine (dDrawRefreshShares sa len cap w h hl).mono ?_
  rintro e w1 ⟨sl, cl, l, sm, cm, more, rfl, RA, RB, na, nb, E1⟩
  clear h hl hl' hbig
  have HL := hide RA.sst
  have HM := hide RB.lst
  clear RA RB
  have HP1 := hide (fun w2 (e : Ext w1 w2) => implRef sl sm cl cm l.length more.length l more w2 (HL.out.ext e) (HM.out.ext e) rfl rfl (by omega) (by omega))
  have HP2 := hide (fun w2 (e : Ext w1 w2) => specRef sl sm cl cm l.length more.length l more w2 (HL.out.ext e) (HM.out.ext e) rfl rfl (by omega) (by omega))
  have HOA := hide (fun w2 (e : Ext w1 w2) => implOS sl cl l.length l w2 (HL.out.ext e) rfl (by omega))
  have hol := rsR_len l more
  by_cases h0 : 0 < (rsR l more).length
  · obtain ⟨hle, hxs, hos⟩ := rs_facts h0
    have HXS := hide hxs
    have HOS := hide hos
    have HLE := hide hle
    clear hle
    obtain ⟨o, ho⟩ : ∃ o, o = rsR l more := ⟨_, rfl⟩; rw [← ho] at HP1 HP2 hol HXS HOS h0 HLE
    have hne0 : ((o.length : Int) == 0) = false := by rw [beq_eq_false_iff_ne]; omega
    clear ho hos hxs
    go_wp2_with fail; refine (HP1.out _ (Ext.refl _)).mono ?_; rintro e w2 ⟨s2, c2, rfl, R2, E2⟩
    go_wp2_with fail; refine (HP2.out _ E2).mono ?_; rintro e w3 ⟨s3, c3, rfl, R3, E3⟩
    go_wp2_with fail; refine (equalShares_yes s2 s3 o o.length c2 c3 _ (R2.sst.ext E3) R3.sst rfl (by omega)).mono ?_; rintro e w4 ⟨rfl, E4⟩
    have E24 := E3.trans E4
    have HR2 := hide (R2.sst.ext E24)
    have E14 := E2.trans E24
    clear R2 R3
    go_wp2
    go_loopw [6] (fun i wr => ∃ k : Nat, k ≤ o.length ∧ i = .int .i64 k ∧ Ext w4 wr) (fun i _ => o.length - (intOf i).toNat)
    case atStart => exact ⟨0, Nat.zero_le _, rfl, Ext.refl _⟩
    case round =>
      obtain ⟨k, hk, rfl, hE⟩ := hrel
      by_cases hlt : k < o.length
      · have hki : (k : Int) < (o.length : Int) := by omega
        have hkl : (k : Int) < (l.length : Int) := by have := HLE.out; omega
        obtain ⟨g, off, rfl, hg, q0, q1⟩ := (HR2.out.ext hE).at hlt
        obtain ⟨g2, off2, rfl, hg2, p0, p1⟩ := (HL.out.ext (E14.trans hE)).at (show k < l.length by have := HLE.out; omega)
        rw [HXS.out k hlt] at q0
        obtain ⟨x, hx⟩ : ∃ x, x = (l.getD k Sh.z).x := ⟨_, rfl⟩; rw [← hx] at q0 p0
        have r0 := cell_regrown q0
        have r1 := cell_regrown p0
        have hd : ((x : Int) != x) = false := by simp
        clear hx q0 q1 p0 p1
        go_wp2
        refine wp_region_quiet_below (by kernel_rfl) (by kernel_rfl) ?_
        repeat (go_big_quiet_step (fail))
        refine wpQuiet_nil ?_; intro w9 hq; have E9 := Ext.class hq; clear hq
        go_wp2
        go_roundw
        case rel => exact ⟨k + 1, by omega, by go_num, hE.trans E9⟩
        case measure => (first | (simp [intOf]; done) | (simp [intOf]; omega))
      · have hki : decide ((k : Int) < (o.length : Int)) = false := decide_eq_false (by omega)
        by_cases hlm : l.length ≤ more.length
        · have hlmi : (l.length : Int) ≤ (more.length : Int) := by omega
          go_wp2
          go_ret
          exact ⟨rfl, E1.trans (E14.trans hE)⟩
        · have hlmi : decide ((l.length : Int) ≤ (more.length : Int)) = false := decide_eq_false (by omega)
          have h8 : ¬ (8 : Int) < (l.length : Int) := by omega
          have HOE := hide (HOS.out (by omega) (by omega))
          have HOC := hide (implOS s2 c2 o.length o _ (HR2.out.ext hE) rfl (by omega))
          rw [HOE.out] at HOC
          obtain ⟨y, hy⟩ : ∃ y, y = osR l := ⟨_, rfl⟩; rw [← hy] at HOC HOA
          have hyy : ((y : Int) == y) = true := by simp
          clear hy HOE HOS
          go_wp2_with fail; refine (HOC.out).mono ?_; rintro e w6 ⟨rfl, E6⟩
          go_wp2_with fail; refine (HOA.out _ (E14.trans (hE.trans E6))).mono ?_; rintro e w7 ⟨rfl, E7⟩
          go_wp2
          go_ret
          exact ⟨rfl, E1.trans ((E14.trans (hE.trans E6)).trans E7)⟩
  · have hn0 : rsR l more = [] := List.length_eq_zero_iff.1 (by omega)
    rw [hn0] at HP1 HP2
    clear hn0 h0 hol
    go_wp2_with fail; refine (HP1.out _ (Ext.refl _)).mono ?_; rintro e w2 ⟨s2, c2, rfl, R2, E2⟩
    go_wp2_with fail; refine (HP2.out _ E2).mono ?_; rintro e w3 ⟨s3, c3, rfl, R3, E3⟩
    go_wp2_with fail; refine (equalShares_yes s2 s3 [] 0 c2 c3 _ (.inl rfl) (.inl rfl) rfl (by omega)).mono ?_; rintro e w4 ⟨rfl, E4⟩
    have E14 := E2.trans (E3.trans E4)
    go_wp2_with fail; refine (HP2.out _ E14).mono ?_; rintro e w5 ⟨s5, c5, rfl, R5, E5⟩
    go_wp2_with fail; refine (equalShares_yes s2 s5 [] 0 c2 c5 _ (.inl rfl) (.inl rfl) rfl (by omega)).mono ?_; rintro e w6 ⟨rfl, E6⟩
    go_wp2
    go_ret
    exact ⟨rfl, E1.trans (E14.trans (E5.trans E6))⟩
end Go.Proofs.Ytgmhodmgbhpdaab
