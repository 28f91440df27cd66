/- Chapter 2: the walk of the law of points, at drawn arguments. -/
import Derived.Test.YtjdfdikifiljjacPureP
namespace Go.Proofs.Ytjdfdikifiljjac
open Go.ChangeShapes Go.WideShapes Go.ChangeAt Go.RowKit Go.Joins Go.Sort
set_option linter.unusedVariables false

theorem eqInts_same (sa sb : Option Addr) (ca cb n : Nat) (l : List Int) (w : World) (ha : Lst w sa l) (hb : Lst w sb l) (hn : l.length = n) (hl : n ≤ 2000000) :
    Calls Try.prog 39 #[.slice sa n ca, .slice sb n cb] w (Ret (.bool true) w) := by
  subst hn
  have := equalInts_any sa sb l l ca cb w ha hb hl hl
  rw [show decide (l = l) = true by simp] at this
  exact this
theorem ptL_len2 {rk : List (List Int)} (h : vr rk = true) : (ptL rk).length = (rk.getD 0 []).length := by rw [ptL_yes h, accL_len]
theorem ptL_bd {rk : List (List Int)} (h : vr rk = true) : ∀ x ∈ ptL rk, 0 ≤ x ∧ x ≤ 72 := by
  intro x hx
  obtain ⟨_, h12, _, _, _⟩ := vr_iff.1 h
  obtain ⟨i, hi, rfl⟩ := mem_getD hx
  rw [ptL_len2 h] at hi
  rw [ptL_yes h, accL_at _ _ _ _ hi]
  have := pt_bd h (S := rk.length) (Nat.le_refl _) hi
  omega
theorem mul_bd3 {L m : Nat} (hL : L ≤ 8) (hm : m ≤ 6) : (0 : Int) ≤ (L : Int) * (m : Int) ∧ (L : Int) * (m : Int) ≤ 48 := by
  have h : L * m ≤ 8 * 6 := Nat.mul_le_mul hL hm
  have e : (L : Int) * (m : Int) = ((L * m : Nat) : Int) := by rw [Int.natCast_mul]
  rw [e]; omega
theorem mul_bd4 {z : Int} {m : Nat} (h0 : 0 ≤ z) (h1 : z ≤ 48) (hm1 : 1 ≤ m) (hm : m ≤ 6) : 0 ≤ z * ((m : Int) - 1) ∧ z * ((m : Int) - 1) ≤ 240 := by
  have hc : m = 1 ∨ m = 2 ∨ m = 3 ∨ m = 4 ∨ m = 5 ∨ m = 6 := by omega
  rcases hc with rfl | rfl | rfl | rfl | rfl | rfl <;> simp <;> omega

set_option maxRecDepth 100000 in
set_option maxHeartbeats 1000000 in
theorem walkFnPointsOf (w : World) (sa : Option Addr) (len cap : Nat) (h : Code w sa len cap) (hl : len ≤ maxLen) :
    Calls Try.prog 11 #[.slice sa len cap] w fun e w' => e = .returned (.bool true) ∧ Below w.heap.size w w' := by
  have hl' := hl
  unfold maxLen at hl'
  by_cases hbig : 1048576 < len
  · clear h hl
    go_enter Try.func11, Try.ntmps11
    go_wp2
    go_ret
    exact ⟨rfl, Below.refl _ _⟩
  · go_enter Try.func11, Try.ntmps11
    go_wp2_with fail
    refine (dDrawPointsOf sa len cap w h hl).mono ?_
    rintro e w1 ⟨sb, cb, rk, hs, rfl, hM, l1, l2, hrl, E1⟩
    have HM := hide hM.mst
    have HR := hide (show ∀ i, i < rk.length → (rk.getD i []).length ≤ 2000000 from fun i hi => by have := hrl i hi; omega)
    clear h hl hl' hbig hM hrl
    have CI := hide fun w h => implPoints sb cb rk w h (by omega) HR.out
    have CS := hide fun w h => specPoints sb cb rk w h (by omega) HR.out
    have HY := hide fun h => @ptL_len2 rk h
    have HN := hide (show ¬ vr rk = true → (ptL rk).length ≤ 0 from fun h => by rw [ptL_no (by rw [Bool.not_eq_true] at h; exact h)]; simp)
    have HBd := hide fun h => @ptL_bd rk h
    have HSu := hide fun h a ha => @pt_sum rk h a ha
    have HTo := hide fun h => @pt_total rk h
    have hvl := ptL_len rk
    go_wp2_with fail; refine (CI.out _ HM.out).mono ?_; rintro e w2 ⟨s2, c2, rfl, R2, hb2⟩
    have E2 := Ext.of hb2
    clear hb2
    go_wp2_with fail; refine (CS.out _ (HM.out.ext E2)).mono ?_; rintro e w3 ⟨s3, c3, rfl, R3, hb3⟩
    have E3 := Ext.of hb3
    have HV := hide (R2.lst.ext E3)
    obtain ⟨V, hV⟩ : ∃ V, V = ptL rk := ⟨_, rfl⟩; rw [← hV] at HV R3 CS CI HY HN HBd hvl HSu HTo ⊢
    clear hb3 hV R2
    go_wp2_with fail; refine (eqInts_same s2 s3 c2 c3 V.length V _ HV.out R3.lst rfl (by omega)).mono ?_; rintro e w4 ⟨rfl, E4⟩
    have HV4 := hide (HV.out.ext E4)
    have E24 := (E2.trans E3).trans E4
    have HM4 := hide (HM.out.ext E24)
    clear R3
    by_cases hv : vr rk = true
    · obtain ⟨_, _, hc1, hc6, _⟩ := vr_iff.1 hv
      have hy := HY.out hv
      have hle1 : (rk.getD 0 []).length ≤ V.length := Nat.le_of_eq hy.symm
      have hle2 : V.length ≤ (rk.getD 0 []).length := Nat.le_of_eq hy
      have HBt := hide fun (a b : Nat) (ha : a < V.length) (hb : b < V.length) (hne : a ≠ b) w h => (show Calls _ _ _ w (Same (.int .i64 (bt rk (a : Int) (b : Int))) w) by
        have := implPrefer sb cb rk (a : Int) (b : Int) w h (by omega) HR.out
        rwa [prf_yes hv ⟨by omega, ⟨by omega, by omega⟩, ⟨by omega, by omega⟩⟩] at this)
      have HSum := hide fun (a : Nat) (ha : a < V.length) => (show V.getD a 0 = sm (fun b => (bt rk (a : Int) (b : Int) : Int)) V.length by rw [hy]; exact HSu.out hv a (by omega))
      have HTot := hide (show 2 * tot V = (rk.length : Int) * (V.length : Int) * ((V.length : Int) - 1) by rw [hy]; exact HTo.out hv)
      have HB := hide (HBd.out hv)
      have HL := hide (bt_le rk)
      have HSelf := hide (bt_self rk)
      have hv0 : ((V.length : Int) == 0) = false := by rw [beq_eq_false_iff_ne]; omega
      have hV6 : V.length ≤ 6 := by omega
      have hV1 : 1 ≤ V.length := by omega
      clear hy hle1 hle2 HY HN HSu HTo HBd hv CI CS hc1 hc6
      go_wp2
      go_loop [6] (fun i => ∃ k : Nat, k ≤ V.length ∧ i = .int .i64 k) (fun i => V.length - (intOf i).toNat)
      case atStart => exact ⟨0, Nat.zero_le _, rfl⟩
      case round =>
        obtain ⟨a, ha, rfl⟩ := hrel
        by_cases hla : a < V.length
        · go_wp2
          go_loop [7, 8] (fun n i => ∃ (q : Nat) (s : Int), q ≤ V.length ∧ i = .int .i64 q ∧ n = .int .i64 s ∧ Hid (s = sm (fun b => (bt rk (a : Int) (b : Int) : Int)) q) ∧ 0 ≤ s ∧ s ≤ 8 * q) (fun _ i => V.length - (intOf i).toNat)
          case atStart => exact ⟨0, 0, Nat.zero_le _, rfl, rfl, rfl, by omega, by omega⟩
          case round =>
            obtain ⟨q, s, hq, rfl, rfl, HS, s0, s1⟩ := hrel
            by_cases hlq : q < V.length
            · have HS2 := hide (show s + (bt rk (a : Int) (q : Int) : Int) = sm (fun b => (bt rk (a : Int) (b : Int) : Int)) (q + 1) by rw [sm_succ, ← HS.out])
              by_cases hqa : a = q
              · have hd : ((a : Int) != (q : Int)) = false := eq_len hqa
                have HS3 := hide (show s = sm (fun b => (bt rk (a : Int) (b : Int) : Int)) (q + 1) by rw [← HS2.out, ← hqa, HSelf.out]; simp)
                clear hqa
                go_wp2
                go_round
                case rel => exact ⟨q + 1, s, by omega, by go_num, rfl, HS3, by omega, by omega⟩
                case measure => simp [intOf]; omega
              · have hd : ((a : Int) != (q : Int)) = true := ne_len hqa
                have C := HBt.out a q hla hlq hqa w4 HM4.out
                have hb := HL.out (a : Int) (q : Int)
                obtain ⟨x, hx⟩ : ∃ x, x = bt rk (a : Int) (q : Int) := ⟨_, rfl⟩; rw [← hx] at C hb HS2
                clear hx hqa
                go_wp2_with fail; refine (C).mono ?_; rintro e w' ⟨rfl, rfl⟩
                go_wp2
                go_round
                case rel => exact ⟨q + 1, s + x, by omega, by go_num, rfl, HS2, by omega, by omega⟩
                case measure => simp [intOf]; omega
            · obtain rfl : q = V.length := by omega
              obtain ⟨gv, ov, rfl, hgv, e3⟩ := HV4.out.at hla
              have hz := HSum.out a hla
              rw [hz, ← HS.out] at e3
              have hne : (s != s) = false := by simp
              have hai : (a : Int) < (V.length : Int) := by omega
              clear hz
              go_wp2
              go_round
              case rel => exact ⟨a + 1, by omega, by go_num⟩
              case measure => simp [intOf]; omega
        · obtain rfl : a = V.length := by omega
          have hT := tot_bd V 72 HB.out
          obtain ⟨z1, z2⟩ := mul_bd3 (L := rk.length) (m := V.length) (by omega) hV6
          obtain ⟨z3, z4⟩ := mul_bd4 z1 z2 hV1 hV6
          have hw1 : IntKind.i64.wrap ((rk.length : Int) * (V.length : Int)) = (rk.length : Int) * (V.length : Int) := IntWalk.i64_in _ (by omega)
          have hw2 : IntKind.i64.wrap ((V.length : Int) - 1) = (V.length : Int) - 1 := IntWalk.i64_in _ (by omega)
          have hw3 : IntKind.i64.wrap ((rk.length : Int) * (V.length : Int) * ((V.length : Int) - 1)) = (rk.length : Int) * (V.length : Int) * ((V.length : Int) - 1) := IntWalk.i64_in _ (by omega)
          have hw4 : IntKind.i64.wrap (2 * tot V) = 2 * tot V := IntWalk.i64_in _ (by omega)
          have hq : (2 * tot V == (rk.length : Int) * (V.length : Int) * ((V.length : Int) - 1)) = true := by rw [beq_iff_eq]; exact HTot.out
          go_wp2_with fail; refine (lawTotal s2 c2 V.length V _ HV4.out rfl (by omega) (fun x hx => ⟨(HB.out x hx).1, by have := (HB.out x hx).2; omega⟩)).mono ?_; rintro e w' ⟨rfl, rfl⟩
          go_wp2
          go_ret
          exact ⟨rfl, E1.trans E24⟩
    · have hv0 : ((V.length : Int) == 0) = true := by rw [beq_iff_eq]; have := HN.out hv; omega
      clear HY HN hv
      go_wp2_with fail; refine (CS.out _ HM4.out).mono ?_; rintro e w5 ⟨s5, c5, rfl, R5, hb5⟩
      have E5 := Ext.of hb5
      go_wp2_with fail; refine (eqInts_same s2 s5 c2 c5 V.length V _ (HV4.out.ext E5) R5.lst rfl (by omega)).mono ?_; rintro e w6 ⟨rfl, E6⟩
      go_wp2
      go_ret
      exact ⟨rfl, E1.trans (E24.trans (E5.trans E6))⟩
end Go.Proofs.Ytjdfdikifiljjac
