/- Chapter 2: the walk of the drawn law of the runoff. -/
import Derived.Test.YtjdfdikifiljjacPureR
import Derived.Test.YtjdfdikifiljjacLawR1
namespace Go.Proofs.Ytjdfdikifiljjac
open Go.ChangeShapes Go.WideShapes Go.ChangeAt Go.RowKit Go.Joins Go.Sort
set_option linter.unusedVariables false

theorem ro_spec {rk : List (List Int)} (h : 0 ≤ roR rk) : vr rk = true ∧ ∃ q : Nat, roR rk = (q : Int) ∧ roF rk = (q : Int) := by
  by_cases hv : vr rk = true
  · rw [ro_yes hv] at h ⊢
    exact ⟨hv, (roF rk).toNat, by omega, by omega⟩
  · rw [Bool.not_eq_true] at hv; rw [ro_no hv] at h; omega
theorem ro_neg {rk : List (List Int)} (h : ¬ 0 ≤ roR rk) : roR rk = -1 := by
  by_cases hv : vr rk = true
  · exfalso
    rw [ro_yes hv] at h
    obtain ⟨_, _, h1, h6, _⟩ := vr_iff.1 hv
    have e := ro_last hv
    have hm : (mems (lfN rk ((rk.getD 0 []).length - 1))).getD 0 0 ∈ mems (lfN rk ((rk.getD 0 []).length - 1)) := getD_mem (by rw [lf_len (by omega) _ (by omega)]; omega)
    obtain ⟨i, _, _, hi⟩ := filK_mem.1 hm
    rw [e] at hi; omega
  · rw [Bool.not_eq_true] at hv; exact ro_no hv
theorem row_head {rk : List (List Int)} (hv : vr rk = true) : ∀ S, S < rk.length → ∃ m : Nat, m < (rk.getD 0 []).length ∧ (rk.getD S []).getD 0 0 = (m : Int) := fun S hS => by
  obtain ⟨_, _, h1, h6, _⟩ := vr_iff.1 hv
  obtain ⟨hw, hx, _⟩ := vr_row hv hS
  obtain ⟨y0, y1⟩ := hx _ (getD_mem (show 0 < (rk.getD S []).length by omega))
  exact ⟨((rk.getD S []).getD 0 0).toNat, by omega, by omega⟩

set_option maxRecDepth 100000 in
set_option maxHeartbeats 2000000 in
theorem walkFnRunoff (w : World) (sa : Option Addr) (len cap : Nat) (h : Code w sa len cap) (hl : len ≤ maxLen) :
    Calls Try.prog 13 #[.slice sa len cap] w fun e w' => e = .returned (.bool true) ∧ Below w.heap.size w w' := by
  have hl' := hl
  unfold maxLen at hl'
  by_cases hbig : 1048576 < len
  · clear h hl
    go_enter Try.func13, Try.ntmps13
    go_wp2
    go_ret
    exact ⟨rfl, Below.refl _ _⟩
  · go_enter Try.func13, Try.ntmps13
    go_wp2_with fail
    refine (dDrawRunoff sa len cap w h hl).mono ?_
    rintro e w1 ⟨sb, cb, rk, hs, rfl, hM, l1, l2, hrl, E1⟩
    have HM := hide hM.mst
    have HR := hide (show ∀ i, i < rk.length → (rk.getD i []).length ≤ 2000000 from fun i hi => by have := hrl i hi; omega)
    clear h hl hl' hbig hM hrl
    have CI := hide fun w h => implRunoff sb cb rk w h (by omega) HR.out
    have CS := hide fun w h => specRunoff sb cb rk w h (by omega) HR.out
    by_cases h0 : 0 ≤ roR rk
    · obtain ⟨hv, q, e, ef⟩ := ro_spec h0
      obtain ⟨_, _, hc1, hc6, _⟩ := vr_iff.1 hv
      rw [e] at CI CS
      have HMJ := hide fun (k : Nat) hk hm => @maj_wins rk hv k hk hm
      have HLA := hide fun h2 => @last_falls rk hv h2
      rw [ef] at HMJ HLA
      have HRH := hide (row_head hv)
      have HW := hide fun S hS => (@vr_row rk hv S hS).1
      obtain ⟨g, off, s0, k0, er, hg, e0, _, _⟩ := HM.out.at (i := 0) (by omega)
      cases er
      rw [Nat.add_zero] at e0
      have hne : ((q : Int) != (q : Int)) = false := by simp
      have hlt : decide ((q : Int) < 0) = false := decide_eq_false (by omega)
      obtain ⟨ch, hch⟩ : ∃ ch, ch = (rk.getD 0 []).length := ⟨_, rfl⟩; rw [← hch] at e0 HMJ HLA HRH HW hc1 hc6
      clear hch e ef h0 hv
      have hmk := run_makeInts ch (by omega)
      go_wp2_with fail; refine (CI.out _ HM.out).mono ?_; rintro e w2 ⟨rfl, E2⟩
      go_wp2_with fail; refine (CS.out _ (HM.out.ext E2)).mono ?_; rintro e w3 ⟨rfl, E3⟩
      have e2 := ((E2.trans E3).cell (o := off) hg).trans e0
      have HM3 := hide ((HM.out.ext E2).ext E3)
      have E13 := (E1.trans E2).trans E3
      clear CI CS HM hne hlt e0
      go_wp2
      clear hmk e2
      go_loopw [7, 8] (fun l i wr => ∃ (k : Nat) (b : Bool), k ≤ rk.length ∧ i = .int .i64 k ∧ l = .bool b ∧ Hid (b = true → ∀ S, S < k → (rk.getD S []).getD (ch - 1) 0 = (q : Int)) ∧ Arr wr w3.heap.size (accL (hdF rk) ch k) ∧ Ext w3 wr) (fun _ i _ => rk.length - (intOf i).toNat)
      case atStart => exact ⟨0, true, Nat.zero_le _, rfl, rfl, (fun _ S hS => absurd hS (Nat.not_lt_zero _)), by rw [← hd_start]; exact Arr.new w3 _, (Ext.refl _).alloc _⟩
      case round =>
        obtain ⟨k, b, hk, rfl, rfl, HB, hA, hE⟩ := hrel
        by_cases hlk : k < rk.length
        · have hdk : decide ((k : Int) < (rk.length : Int)) = true := decide_eq_true (by omega)
          obtain ⟨m, hm, hhd⟩ := HRH.out k hlk
          have HSet := hide (hd_set (rk := rk) (n := ch) hm hhd)
          obtain ⟨g1, off1, si, ci, er, hg1, c1, L1, _⟩ := HM3.out.at hlk
          cases er
          have hw := HW.out k hlk
          have cv := hA.cell (j := m) (by rw [accL_len]; exact hm)
          rw [accL_at _ _ _ _ hm] at cv
          have fv := hA.free m
          have hb := hd_bd rk m k
          obtain ⟨x, hx⟩ : ∃ x, x = acc (hdF rk) m k := ⟨_, rfl⟩; rw [← hx] at cv hb HSet
          clear hx
          obtain ⟨g2, off2, e2, hg2, c2⟩ := L1.at (k := 0) (by rw [hw]; omega)
          cases e2
          obtain ⟨g3, off3, e3, hg3, c3⟩ := L1.at (k := ch - 1) (by rw [hw]; omega)
          cases e3
          rw [hhd, Nat.add_zero] at c2
          obtain ⟨y, hy⟩ : ∃ y, y = (rk.getD k []).getD (ch - 1) 0 := ⟨_, rfl⟩
          rw [← hy] at c3
          have HY := hide hy; clear hy
          rw [hw] at c1
          have H1 := hide c1; clear c1
          have H2 := hide c2; clear c2
          have H3 := hide c3; clear c3
          clear hhd hw L1
          have c1 := (hE.cell hg1).trans H1.out
          have c2 := (hE.cell hg2).trans H2.out
          have hc0 : 0 < ch := by omega
          have hc0i : (0 : Int) < (ch : Int) := by omega
          go_wp2
          refine wp_region_still_tail 18 (by kernel_rfl) (by kernel_rfl) ?_
          simp only [List.take_succ_cons, List.take_zero, List.drop_succ_cons, List.drop_zero]
          repeat still_step
          refine wpStill_nil ?_
          change wpList _ _ _ _ _ (World.drew _)
          have c3 := (hE.cell hg3).trans H3.out
          have z1 : (0 : Int) ≤ (ch : Int) - 1 := by omega
          have z2 : (ch : Int) - 1 < (ch : Int) := by omega
          have z3 : ((ch : Int) - 1).toNat = ch - 1 := by omega
          have z4 : IntKind.i64.wrap ((ch : Int) - 1) = (ch : Int) - 1 := IntWalk.i64_in _ (by omega)
          cases b with
          | false =>
            have HB2 := hide (show false = true → ∀ S, S < k + 1 → (rk.getD S []).getD (ch - 1) 0 = (q : Int) from fun h => by simp at h)
            go_wp2
            go_roundw
            case rel => exact ⟨k + 1, false, by omega, by go_num, rfl, HB2, by rw [← HSet.out]; exact (hA.set m _).drew, (hE.setCell (Nat.le_refl _) _).drew⟩
            case measure => simp [intOf]; omega
          | true =>
            by_cases hyq : y = (q : Int)
            · have HB2 := hide (show true = true → ∀ S, S < k + 1 → (rk.getD S []).getD (ch - 1) 0 = (q : Int) from fun _ S hS => by
                by_cases e : S = k
                · rw [e, ← HY.out]; exact hyq
                · exact HB.out rfl S (by omega))
              have hdq : ((y : Int) == (q : Int)) = true := beq_iff_eq.2 hyq
              clear hyq
              go_wp2
              go_roundw
              case rel => exact ⟨k + 1, true, by omega, by go_num, rfl, HB2, by rw [← HSet.out]; exact (hA.set m _).drew, (hE.setCell (Nat.le_refl _) _).drew⟩
              case measure => simp [intOf]; omega
            · have HB2 := hide (show false = true → ∀ S, S < k + 1 → (rk.getD S []).getD (ch - 1) 0 = (q : Int) from fun h => by simp at h)
              have hdq : ((y : Int) == (q : Int)) = false := by rw [beq_eq_false_iff_ne]; exact hyq
              clear hyq
              go_wp2
              go_roundw
              case rel => exact ⟨k + 1, false, by omega, by go_num, rfl, HB2, by rw [← HSet.out]; exact (hA.set m _).drew, (hE.setCell (Nat.le_refl _) _).drew⟩
              case measure => simp [intOf]; omega
        · obtain rfl : k = rk.length := by omega
          have hdk : decide ((rk.length : Int) < (rk.length : Int)) = false := decide_eq_false (by omega)
          have HAc := hide (show ∀ j : Nat, j < ch → ∃ x : Int, x = acc (hdF rk) j rk.length ∧ 0 ≤ x ∧ x ≤ 10 from fun j hj => by
            have := hd_bd rk j rk.length
            exact ⟨_, rfl, by omega, by omega⟩)
          have hgN : w3.heap.size < w3.heap.size + 1 := Nat.lt_succ_self _
          go_wp2
          go_loop [9] (fun i => ∃ j : Nat, j ≤ ch ∧ i = .int .i64 j) (fun i => ch - (intOf i).toNat)
          case atStart => exact ⟨0, Nat.zero_le _, rfl⟩
          case round =>
            obtain ⟨j, hj, rfl⟩ := hrel
            by_cases hlj : j < ch
            · have hdj : decide ((j : Int) < (ch : Int)) = true := decide_eq_true (by omega)
              have cv := hA.cell (j := j) (by rw [accL_len]; exact hlj)
              rw [accL_at _ _ _ _ hlj] at cv
              obtain ⟨x, hx, x0, x1⟩ := HAc.out j hlj
              have HJ := hide (HMJ.out j hlj)
              rw [← hx] at cv HJ
              clear hx
              by_cases hmaj : (rk.length : Int) < 2 * x
              · have hq : (q : Int) = (j : Int) := HJ.out hmaj
                obtain rfl : q = j := by omega
                have hdm : decide ((rk.length : Int) < 2 * x) = true := decide_eq_true hmaj
                have hne : ((q : Int) != (q : Int)) = false := by simp
                clear hmaj hq
                go_wp2
                go_round
                case rel => exact ⟨q + 1, by omega, by go_num⟩
                case measure => simp [intOf]; omega
              · have hdm : decide ((rk.length : Int) < 2 * x) = false := decide_eq_false hmaj
                clear hmaj
                go_wp2
                go_round
                case rel => exact ⟨j + 1, by omega, by go_num⟩
                case measure => simp [intOf]; omega
            · obtain rfl : j = ch := by omega
              have hdj : decide ((j : Int) < (j : Int)) = false := decide_eq_false (by omega)
              by_cases h1 : j = 1
              · have hd1 : ((j : Int) == 1) = true := by rw [beq_iff_eq]; omega
                clear h1
                go_wp2
                go_ret
                exact ⟨rfl, E13.trans hE⟩
              · have hd1 : ((j : Int) == 1) = false := by rw [beq_eq_false_iff_ne]; omega
                have hb : b = false := by
                  cases b with
                  | false => rfl
                  | true => exact (HLA.out (by omega) (HB.out rfl)).elim
                subst hb
                clear h1
                go_wp2
                go_ret
                exact ⟨rfl, E13.trans hE⟩
    · have e := ro_neg h0
      rw [e] at CI CS
      clear e h0
      go_wp2_with fail; refine (CI.out _ HM.out).mono ?_; rintro e w2 ⟨rfl, E2⟩
      go_wp2_with fail; refine (CS.out _ (HM.out.ext E2)).mono ?_; rintro e w3 ⟨rfl, E3⟩
      go_wp2_with fail; refine (CS.out _ ((HM.out.ext E2).ext E3)).mono ?_; rintro e w4 ⟨rfl, E4⟩
      go_wp2
      go_ret
      exact ⟨rfl, E1.trans (E2.trans (E3.trans E4))⟩
end Go.Proofs.Ytjdfdikifiljjac
