/- Chapter 2: the walk of the law of points of who beats all, at drawn arguments. -/
import Derived.Test.YtjdfdikifiljjacLawR2
namespace Go.Proofs.Ytjdfdikifiljjac
open Go.ChangeShapes Go.WideShapes Go.ChangeAt Go.RowKit Go.Joins Go.Sort
set_option linter.unusedVariables false

theorem pt_more {rk : List (List Int)} (h : vr rk = true) {a : Nat} (ha : a < (rk.getD 0 []).length) (h2 : 2 ≤ (rk.getD 0 []).length) (hb : ∀ b : Nat, b < (rk.getD 0 []).length → b ≠ a → rk.length < 2 * bt rk (a : Int) (b : Int)) :
    (rk.length : Int) * (((rk.getD 0 []).length : Int) - 1) < 2 * (ptL rk).getD a 0 := by
  have h1 := pt_beats h ha hb
  obtain ⟨_, _, _, h6, _⟩ := vr_iff.1 h
  generalize (ptL rk).getD a 0 = p at h1 ⊢
  generalize (rk.length : Int) = L at h1 ⊢
  generalize (rk.getD 0 []).length = c at h1 h6 h2 ⊢
  have hc : c = 2 ∨ c = 3 ∨ c = 4 ∨ c = 5 ∨ c = 6 := by omega
  rcases hc with rfl | rfl | rfl | rfl | rfl <;> simp at h1 ⊢ <;> omega
theorem mul_bd5 {L m : Nat} (hL : L ≤ 8) (hm : m ≤ 6) (h1 : 1 ≤ m) : (0 : Int) ≤ (L : Int) * ((m : Int) - 1) ∧ (L : Int) * ((m : Int) - 1) ≤ 48 := by
  have h : L * (m - 1) ≤ 8 * 6 := Nat.mul_le_mul hL (by omega)
  have e : (L : Int) * ((m : Int) - 1) = ((L * (m - 1) : Nat) : Int) := by rw [Int.natCast_mul]; congr 1; omega
  rw [e]; omega

set_option maxRecDepth 100000 in
set_option maxHeartbeats 1000000 in
theorem walkFnPointsOfBeats (w : World) (sa : Option Addr) (len cap : Nat) (h : Code w sa len cap) (hl : len ≤ maxLen) :
    Calls Try.prog 12 #[.slice sa len cap] w fun e w' => e = .returned (.bool true) ∧ Below w.heap.size w w' := by
  have hl' := hl
  unfold maxLen at hl'
  by_cases hbig : 1048576 < len
  · clear h hl
    go_enter Try.func12, Try.ntmps12
    go_wp2
    go_ret
    exact ⟨rfl, Below.refl _ _⟩
  · go_enter Try.func12, Try.ntmps12
    go_wp2_with fail
    refine (dDrawPointsOf sa len cap w h hl).mono ?_
    rintro e w1 ⟨sb, cb, rk, hs, rfl, hM, l1, l2, hrl, E1⟩
    have HM := hide hM.mst
    have HR := hide (show ∀ i, i < rk.length → (rk.getD i []).length ≤ 2000000 from fun i hi => by have := hrl i hi; omega)
    clear h hl hl' hbig hM hrl
    have CI := hide fun w h => implPoints sb cb rk w h (by omega) HR.out
    have CS := hide fun w h => specPoints sb cb rk w h (by omega) HR.out
    have HY := hide fun h => @ptL_len2 rk h
    have HN := hide (show ¬ vr rk = true → (ptL rk).length ≤ 0 from fun h => by rw [ptL_no (by rw [Bool.not_eq_true] at h; exact h)]; simp)
    have HBd := hide fun h => @ptL_bd rk h
    have HMo := hide fun h a ha h2 hb => @pt_more rk h a ha h2 hb
    have HLe := hide fun h a ha h2 hb => @pt_less rk h a ha h2 hb
    have hvl := ptL_len rk
    go_wp2_with fail; refine (CI.out _ HM.out).mono ?_; rintro e w2 ⟨s2, c2, rfl, R2, hb2⟩
    have E2 := Ext.of hb2
    clear hb2
    go_wp2_with fail; refine (CS.out _ (HM.out.ext E2)).mono ?_; rintro e w3 ⟨s3, c3, rfl, R3, hb3⟩
    have E3 := Ext.of hb3
    have HV := hide (R2.lst.ext E3)
    obtain ⟨V, hV⟩ : ∃ V, V = ptL rk := ⟨_, rfl⟩; rw [← hV] at HV R3 CS CI HY HN HBd hvl HMo HLe ⊢
    clear hb3 hV R2
    go_wp2_with fail; refine (eqInts_same s2 s3 c2 c3 V.length V _ HV.out R3.lst rfl (by omega)).mono ?_; rintro e w4 ⟨rfl, E4⟩
    have HV4 := hide (HV.out.ext E4)
    have E24 := (E2.trans E3).trans E4
    have HM4 := hide (HM.out.ext E24)
    clear R3
    by_cases hv : 2 ≤ V.length
    · have hvr : vr rk = true := Decidable.byContradiction fun h => by have := HN.out h; omega
      obtain ⟨_, _, hc1, hc6, _⟩ := vr_iff.1 hvr
      have hy := HY.out hvr
      have hV6 : V.length ≤ 6 := by omega
      have hv0 : decide ((V.length : Int) < 2) = false := decide_eq_false (by omega)
      have HB := hide (HBd.out hvr)
      have CBA := hide fun w h => implBA sb cb rk w h (by omega) HR.out
      by_cases h0 : 0 ≤ ba rk
      · obtain ⟨_, a, ha, e, hb⟩ := ba_spec h0
        have HA := hide (show (rk.length : Int) * ((V.length : Int) - 1) < 2 * V.getD a 0 by rw [hy]; exact HMo.out hvr a ha (by omega) hb)
        have HE := hide (show ∃ i, i < V.length ∧ V.getD i 0 < V.getD a 0 by rw [hy]; exact HLe.out hvr a ha (by omega) hb)
        rw [e] at CBA
        have haV : a < V.length := by omega
        have hneg : decide ((a : Int) < 0) = false := decide_eq_false (by omega)
        clear hy hc1 hc6 hvr HY HN HBd HMo HLe CI CS e hb h0 ha
        go_wp2_with fail; refine (CBA.out _ HM4.out).mono ?_; rintro e w' ⟨rfl, rfl⟩
        obtain ⟨gv, ov, rfl, hgv, e0⟩ := HV4.out.at (k := 0) (by omega)
        rw [Nat.add_zero] at e0
        have h0V : 0 < V.length := by omega
        have HZ := hide (show ∀ i, i < 0 → V.getD 0 0 ≤ V.getD i 0 from fun i hi => absurd hi (Nat.not_lt_zero _))
        have hb0 := HB.out _ (getD_mem h0V)
        obtain ⟨y0, hy0⟩ : ∃ y0, y0 = V.getD 0 0 := ⟨_, rfl⟩
        rw [← hy0] at e0 hb0 HZ
        clear hy0
        go_wp2
        go_loop [6, 7] (fun v i => ∃ (k : Nat) (s : Int), k ≤ V.length ∧ i = .int .i64 k ∧ v = .int .i64 s ∧ Hid (∀ i, i < k → s ≤ V.getD i 0) ∧ 0 ≤ s ∧ s ≤ 100) (fun _ i => V.length - (intOf i).toNat)
        case atStart => exact ⟨0, y0, Nat.zero_le _, rfl, rfl, HZ, by omega, by omega⟩
        case round =>
          obtain ⟨k, s, hk, rfl, rfl, HS, s0, s1⟩ := hrel
          by_cases hlk : k < V.length
          · obtain ⟨gv2, ov2, e9, hgv2, e3⟩ := HV4.out.at hlk
            cases e9
            have hbk := HB.out _ (getD_mem hlk)
            have hki : (k : Int) < (V.length : Int) := by omega
            obtain ⟨x, hx⟩ : ∃ x, x = V.getD k 0 := ⟨_, rfl⟩
            have HX := hide hx
            rw [← hx] at e3 hbk
            clear hx
            by_cases hxs : x < s
            · have HS2 := hide (show ∀ i, i < k + 1 → x ≤ V.getD i 0 from fun i hi => by
                by_cases e : i = k
                · rw [e, ← HX.out]; exact Int.le_refl _
                · have := HS.out i (by omega); omega)
              go_wp2
              go_round
              case rel => exact ⟨k + 1, x, by omega, by go_num, by simp, HS2, by omega, by omega⟩
              case measure => simp [intOf]; omega
            · have HS2 := hide (show ∀ i, i < k + 1 → s ≤ V.getD i 0 from fun i hi => by
                by_cases e : i = k
                · rw [e, ← HX.out]; omega
                · exact HS.out i (by omega))
              go_wp2
              go_round
              case rel => exact ⟨k + 1, s, by omega, by go_num, by simp, HS2, by omega, by omega⟩
              case measure => simp [intOf]; omega
          · obtain rfl : k = V.length := by omega
            obtain ⟨gv2, ov2, e9, hgv2, e3⟩ := HV4.out.at haV
            cases e9
            have hba := HB.out _ (getD_mem haV)
            have hA := HA.out
            have hE : s < V.getD a 0 := by
              obtain ⟨i, hi, h2⟩ := HE.out
              have := HS.out i hi; omega
            obtain ⟨z1, z2⟩ := mul_bd5 (L := rk.length) (m := V.length) (by omega) hV6 (by omega)
            have hai : (a : Int) < (V.length : Int) := by omega
            obtain ⟨p, hp⟩ : ∃ p, p = V.getD a 0 := ⟨_, rfl⟩; rw [← hp] at e3 hba hA hE
            have hw1 : IntKind.i64.wrap ((V.length : Int) - 1) = (V.length : Int) - 1 := IntWalk.i64_in _ (by omega)
            have hw2 : IntKind.i64.wrap ((rk.length : Int) * ((V.length : Int) - 1)) = (rk.length : Int) * ((V.length : Int) - 1) := IntWalk.i64_in _ (by omega)
            have hw3 : IntKind.i64.wrap (2 * p) = 2 * p := IntWalk.i64_in _ (by omega)
            have hd1 : decide ((rk.length : Int) * ((V.length : Int) - 1) < 2 * p) = true := decide_eq_true hA
            have hd2 : decide (s < p) = true := decide_eq_true hE
            clear hp hA hE
            go_wp2
            go_ret
            exact ⟨rfl, E1.trans E24⟩
      · have e := ba_neg h0
        rw [e] at CBA
        clear hy hc1 hc6 hvr HY HN HBd HMo HLe CI CS e h0
        go_wp2_with fail; refine (CBA.out _ HM4.out).mono ?_; rintro e w' ⟨rfl, rfl⟩
        go_wp2
        go_ret
        exact ⟨rfl, E1.trans E24⟩
    · have hv0 : decide ((V.length : Int) < 2) = true := decide_eq_true (by omega)
      clear HY HN hv
      go_wp2_with fail; refine (CS.out _ HM4.out).mono ?_; rintro e w5 ⟨s5, c5, rfl, R5, hb5⟩
      have E5 := Ext.of hb5
      go_wp2_with fail; refine (eqInts_same s2 s5 c2 c5 V.length V _ (HV4.out.ext E5) R5.lst rfl (by omega)).mono ?_; rintro e w6 ⟨rfl, E6⟩
      go_wp2
      go_ret
      exact ⟨rfl, E1.trans (E24.trans (E5.trans E6))⟩
end Go.Proofs.Ytjdfdikifiljjac
