/- Chapter 2: the runoff: the weakest choice, by the program. -/
import Derived.Test.YtjdfdikifiljjacRun2
namespace Go.Proofs.Ytjdfdikifiljjac
open Go.ChangeShapes Go.WideShapes Go.ChangeAt Go.RowKit Go.Joins Go.Sort
set_option linter.unusedVariables false

set_option maxHeartbeats 3000000 in
theorem implWeakest (sa : Option Addr) (cap n : Nat) (rk : List (List Int)) (s : Nat) (w : World) (h : Mst w sa rk) (hn : rk.length = n) (hl : rk.length ≤ 2000000) (hr : ∀ i, i < rk.length → (rk.getD i []).length ≤ 2000000) (hs : s ≤ 1000000) (hx : ∀ i, i < rk.length → ∀ j, j < (rk.getD i []).length → 0 ≤ (rk.getD i []).getD j 0 ∧ (rk.getD i []).getD j 0 ≤ 60) :
    Calls Try.prog 61 #[.slice sa n cap, .int .i64 s] w (Ret (.int .i64 (wkst rk s)) w) := by
  subst hn
  have H := hide h; clear h
  have HR := hide hr; clear hr
  have HX := hide hx; clear hx
  go_enter Try.func61, Try.ntmps61
  go_wp2_with fail; refine (implListOf s _ hs).mono ?_; rintro e w3 ⟨s3, c3, rfl, R3, hb3⟩
  have E3 := Ext.of hb3
  clear hb3
  have hm20 := mems_len s
  have HM := hide (show ∀ i, i < (mems s).length → ∃ m : Nat, m < 20 ∧ (mems s).getD i 0 = (m : Int) from fun i hi => by
    obtain ⟨m, h1, _, h2⟩ := filK_mem.1 (getD_mem hi : (mems s).getD i 0 ∈ mems s)
    exact ⟨m, h1, h2⟩)
  have HF := hide (show (wkK (frN rk s) (mems s) rk.length (mems s).length).1 = wkst rk s from rfl)
  obtain ⟨ms, hms⟩ : ∃ ms, ms = mems s := ⟨_, rfl⟩; rw [← hms] at R3 HM HF hm20 ⊢
  clear hms
  have H3 := hide (H.out.ext E3)
  have HL := hide R3.lst
  clear R3
  go_wp2
  go_loop [5, 6, 15] (fun b f i => ∃ (k : Nat) (q z : Int), k ≤ ms.length ∧ i = .int .i64 k ∧ b = .int .i64 q ∧ f = .int .i64 z ∧ Hid ((q, z) = wkK (frN rk s) ms rk.length k)) (fun _ _ i => ms.length - (intOf i).toNat)
  case atStart => exact ⟨0, -1, rk.length, Nat.zero_le _, rfl, rfl, rfl, rfl⟩
  case round =>
    obtain ⟨k, q, z, hk, rfl, rfl, rfl, HQ⟩ := hrel
    by_cases hlt : k < ms.length
    · obtain ⟨g, off, e, hg, c1⟩ := HL.out.at hlt
      cases e
      obtain ⟨m, hm, hme⟩ := HM.out k hlt
      rw [hme] at c1
      have CC := implFirsts sa cap rk.length rk s m w3 H3.out rfl hl HR.out hs HX.out
      have HC := hide (show frN rk s (ms.getD k 0) = frN rk s m by rw [hme])
      have HE := hide hme
      clear hme
      by_cases hle : frN rk s m ≤ z
      · have HQ2 := hide (show ((m : Int), frN rk s m) = wkK (frN rk s) ms rk.length (k + 1) by
          rw [wk_yes (by rw [← HQ.out, HC.out]; exact hle), HC.out, HE.out])
        obtain ⟨F, hF⟩ : ∃ F, F = frN rk s m := ⟨_, rfl⟩; rw [← hF] at CC HQ2 hle
        clear hF
        have hd : decide (F ≤ z) = true := decide_eq_true hle
        go_wp2_with fail; refine (CC).mono ?_; rintro e w' ⟨rfl, rfl⟩
        clear CC
        go_wp2
        go_round
        case rel => exact ⟨k + 1, m, F, by omega, by go_num, rfl, rfl, HQ2⟩
        case measure => simp [intOf]; omega
      · have HQ2 := hide (show (q, z) = wkK (frN rk s) ms rk.length (k + 1) by
          rw [wk_no (by rw [← HQ.out, HC.out]; exact hle), HQ.out])
        obtain ⟨F, hF⟩ : ∃ F, F = frN rk s m := ⟨_, rfl⟩; rw [← hF] at CC hle
        clear hF
        have hd : decide (F ≤ z) = false := decide_eq_false hle
        go_wp2_with fail; refine (CC).mono ?_; rintro e w' ⟨rfl, rfl⟩
        clear CC
        go_wp2
        go_round
        case rel => exact ⟨k + 1, q, z, by omega, by go_num, rfl, rfl, HQ2⟩
        case measure => simp [intOf]; omega
    · obtain rfl : k = ms.length := by omega
      have HG := hide (show q = wkst rk s by rw [← HF.out, ← HQ.out])
      go_wp2
      go_ret
      exact Ret.int HG.out E3
end Go.Proofs.Ytjdfdikifiljjac
