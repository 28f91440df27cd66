/- Chapter 2: the runoff, by the program. -/
import Derived.Test.YtjdfdikifiljjacRun3
namespace Go.Proofs.Ytjdfdikifiljjac
open Go.ChangeShapes Go.WideShapes Go.ChangeAt Go.RowKit Go.Joins Go.Sort
set_option linter.unusedVariables false

/-- what each strike is -/
theorem lf_strike {rk : List (List Int)} (hv : vr rk = true) {j : Nat} (hj : j + 1 < (rk.getD 0 []).length) : ∃ m : Nat, m < (rk.getD 0 []).length ∧ wkst rk (lfN rk j) = (m : Int) ∧ 2 ^ m ≤ lfN rk j ∧ lfN rk (j + 1) = minus (lfN rk j) m := by
  obtain ⟨_, _, _, h6, _⟩ := vr_iff.1 hv
  obtain ⟨i, h1, h2⟩ := wkst_in (rk := rk) (s := lfN rk j) (by rw [lf_len (by omega) j (by omega)]; omega)
  obtain ⟨m, h3, h4, h5⟩ := filK_mem.1 (getD_mem h1 : (mems (lfN rk j)).getD i 0 ∈ mems (lfN rk j))
  rw [h5] at h2
  refine ⟨m, ?_, h2, bit_le h4, by show minus _ _ = _; rw [h2]; rfl⟩
  by_cases hm : m < (rk.getD 0 []).length
  · exact hm
  · have := Nat.testBit_lt_two_pow (Nat.lt_of_lt_of_le (lf_lt rk j) (pow_le (show (rk.getD 0 []).length ≤ m by omega)))
    rw [this] at h4; simp at h4
theorem ro_last {rk : List (List Int)} (hv : vr rk = true) : (mems (lfN rk ((rk.getD 0 []).length - 1))).getD 0 0 = roF rk := by
  obtain ⟨h0, _, h1, h6, _⟩ := vr_iff.1 hv
  have hl := lf_len (rk := rk) (by omega) ((rk.getD 0 []).length - 1) (by omega)
  have hlt := lf_lt rk ((rk.getD 0 []).length - 1)
  unfold roF
  generalize lfN rk ((rk.getD 0 []).length - 1) = s at hl hlt ⊢
  have hl1 : (mems s).length = 1 := by omega
  obtain ⟨x, hx⟩ := List.length_eq_one_iff.1 hl1
  have hxm : x ∈ mems s := by rw [hx]; simp
  obtain ⟨i, h3, h4, h5⟩ := filK_mem.1 hxm
  have hi : i < (rk.getD 0 []).length := by
    by_cases hi : i < (rk.getD 0 []).length
    · exact hi
    · have := Nat.testBit_lt_two_pow (Nat.lt_of_lt_of_le hlt (pow_le (show (rk.getD 0 []).length ≤ i by omega)))
      rw [this] at h4; simp at h4
  have hr := vr_mem hv (i := 0) (by omega) (x := x) (by omega) (by omega)
  obtain ⟨h7, h8⟩ := fstS_mem hr (s := s) (by rw [h5, Int.toNat_natCast]; exact h4)
  obtain ⟨y0, y1⟩ := (vr_row hv (i := 0) (by omega)).2.1 _ h7
  have hym : fstS (rk.getD 0 []) s ∈ mems s := filK_mem.2 ⟨(fstS (rk.getD 0 []) s).toNat, by omega, h8, by omega⟩
  rw [hx, List.mem_singleton] at hym
  rw [hx, hym]; simp
theorem vr_small {rk : List (List Int)} (hv : vr rk = true) : ∀ i, i < rk.length → ∀ j, j < (rk.getD i []).length → 0 ≤ (rk.getD i []).getD j 0 ∧ (rk.getD i []).getD j 0 ≤ 60 := fun i hi j hj => by
  obtain ⟨_, _, _, h6, _⟩ := vr_iff.1 hv
  obtain ⟨y0, y1⟩ := (vr_row hv hi).2.1 _ (getD_mem hj)
  omega

set_option maxHeartbeats 1000000 in
theorem implRunoff (sa : Option Addr) (cap : Nat) (rk : List (List Int)) (w : World) (h : Mst w sa rk) (hl : rk.length ≤ 2000000) (hr : ∀ i, i < rk.length → (rk.getD i []).length ≤ 2000000) :
    Calls Try.prog 33 #[.slice sa rk.length cap] w (Ret (.int .i64 (roR rk)) w) := by
  have H := hide h; clear h
  have HR := hide hr; clear hr
  by_cases hv : vr rk = true; rotate_left
  · rw [Bool.not_eq_true] at hv
    have HF := hide (show (-1 : Int) = roR rk from (ro_no hv).symm)
    go_enter Try.func33, Try.ntmps33
    go_wp2_with fail; refine (Same.eqB (implVR _ _ _ _ H.out hl HR.out) hv).mono ?_; rintro e w' ⟨rfl, rfl⟩
    go_wp2
    go_ret
    exact Ret.int HF.out (Ext.refl _)
  obtain ⟨h1, h2, h3, h4, _⟩ := vr_iff.1 hv
  have HX := hide (vr_small hv)
  have HST := hide fun j hj => @lf_strike rk hv j hj
  have HLE := hide (lf_le rk (by omega))
  have HF := hide (show roF rk = roR rk from (ro_yes hv).symm)
  have HFu := hide (show fullI (rk.getD 0 []).length = ((lfN rk 0 : Nat) : Int) by
    show (2 : Int) ^ _ - 1 = ((2 ^ _ - 1 : Nat) : Int)
    have := Nat.two_pow_pos (rk.getD 0 []).length
    rw [Int.ofNat_sub (by omega), pow_cast]; rfl)
  have HG := hide (show roF rk = fstS (rk.getD 0 []) (lfN rk ((rk.getD 0 []).length - 1)) from rfl)
  obtain ⟨g, off, s0, k0, e, hg, c0, _, _⟩ := H.out.at (i := 0) (by omega)
  cases e
  rw [Nat.add_zero] at c0
  obtain ⟨ch, hch⟩ : ∃ ch, ch = (rk.getD 0 []).length := ⟨_, rfl⟩
  rw [← hch] at c0 h3 h4 HST HFu HG
  have HCH := hide hch; clear hch
  go_enter Try.func33, Try.ntmps33
  go_wp2_with fail; refine (Same.eqB (implVR _ _ _ _ H.out hl HR.out) hv).mono ?_; rintro e w' ⟨rfl, rfl⟩
  go_wp2_with fail; refine (implFullSet ch _ (by omega)).mono ?_; rintro e w' ⟨rfl, rfl⟩
  rw [HFu.out]
  clear c0
  go_wp2
  go_loopw [4, 5] (fun l i wr => ∃ (j q : Nat), j + 1 ≤ ch ∧ i = .int .i64 j ∧ l = .int .i64 q ∧ Hid (q = lfN rk j) ∧ q ≤ 63 ∧ Ext w wr) (fun _ i _ => ch - (intOf i).toNat)
  case atStart => exact ⟨0, lfN rk 0, by omega, rfl, rfl, rfl, HLE.out 0, Ext.refl _⟩
  case round =>
    obtain ⟨j, q, hj, rfl, rfl, HQ, hq, hE⟩ := hrel
    by_cases hlt : j + 1 < ch
    · have hd : decide ((j : Int) < (ch : Int) - 1) = true := decide_eq_true (by omega)
      obtain ⟨m, hm, hw, hle, hmin⟩ := HST.out j hlt
      rw [← HQ.out] at hw hle hmin
      have hm6 : m ≤ 6 := by omega
      have CC := implWeakest (some ⟨g, off, none⟩) cap rk.length rk q wr (H.out.ext hE) rfl hl HR.out (by omega) HX.out
      rw [hw] at CC
      have HQ2 := hide (show minus q m = lfN rk (j + 1) by rw [hmin, HQ.out])
      have HMI := hide (show (q : Int) - (2 : Int) ^ m = ((minus q m : Nat) : Int) by unfold minus; rw [Int.ofNat_sub hle, pow_cast])
      have hq2 : minus q m ≤ 63 := minus_le hq
      have hp := pow_bd (m := m) (by omega)
      clear hw hle hmin
      go_wp2_with fail; refine (CC).mono ?_; rintro e w2 ⟨rfl, E2⟩
      clear CC
      go_wp2
      go_roundw
      case rel => exact ⟨j + 1, minus q m, by omega, by go_num, by rw [← HMI.out], HQ2, hq2, hE.trans E2⟩
      case measure => simp [intOf]; omega
    · have hd : decide ((j : Int) < (ch : Int) - 1) = false := decide_eq_false (by omega)
      have HG2 := hide (show fstS (rk.getD 0 []) q = roR rk by
        rw [← HF.out, HG.out, HQ.out, show ch - 1 = j by omega])
      obtain ⟨g2, off2, s2, k2, e, hg2, c2, L2, _⟩ := (H.out.ext hE).at (i := 0) (by omega)
      cases e
      rw [Nat.add_zero, ← HCH.out] at c2
      have hx0 := HX.out 0 (by omega)
      have CC := implFirst s2 k2 ch (rk.getD 0 []) q wr L2 HCH.out.symm (by omega) (by omega) hx0
      rw [HG2.out] at CC
      clear L2 hx0
      go_wp2_with fail; refine (CC).mono ?_; rintro e w' ⟨rfl, rfl⟩
      clear CC
      go_wp2
      go_ret
      exact Ret.int rfl hE
end Go.Proofs.Ytjdfdikifiljjac
