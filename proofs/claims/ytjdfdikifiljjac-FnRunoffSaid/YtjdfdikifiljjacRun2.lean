/- Chapter 2: the runoff: the program's own contracts. -/
import Derived.Test.YtjdfdikifiljjacRun1
namespace Go.Proofs.Ytjdfdikifiljjac
open Go.ChangeShapes Go.WideShapes Go.ChangeAt Go.RowKit Go.Joins Go.Sort
set_option linter.unusedVariables false

set_option maxHeartbeats 400000 in
theorem implFirst (sa : Option Addr) (cap n : Nat) (l : List Int) (s : Nat) (w : World) (h : Lst w sa l) (hn : l.length = n) (hl : n ≤ 2000000) (hs : s ≤ 1000000) (hx : ∀ i, i < l.length → 0 ≤ l.getD i 0 ∧ l.getD i 0 ≤ 60) :
    Calls Try.prog 62 #[.slice sa n cap, .int .i64 s] w (Same (.int .i64 (fstS l s)) w) := by
  subst hn
  have H := hide h; clear h
  have HX := hide hx; clear hx
  go_enter Try.func62, Try.ntmps62
  go_wp2
  go_loop [9] (fun i => ∃ c : Nat, c ≤ l.length ∧ i = .int .i64 c ∧ Hid (∀ i, i < c → s.testBit (l.getD i 0).toNat = false)) (fun i => l.length - (intOf i).toNat)
  case atStart => exact ⟨0, Nat.zero_le _, rfl, (show ∀ i, i < 0 → _ from fun i hi => absurd hi (Nat.not_lt_zero _))⟩
  case round =>
    obtain ⟨c, hc, rfl, HN⟩ := hrel
    by_cases hlt : c < l.length
    · obtain ⟨g, off, rfl, hg, c1⟩ := H.out.at hlt
      obtain ⟨x0, x1⟩ := HX.out c hlt
      obtain ⟨m, hm⟩ := Int.eq_ofNat_of_zero_le x0
      rw [hm] at c1 x1
      have hm6 : m ≤ 60 := by omega
      clear x0 x1
      by_cases hbit : s.testBit m = true
      · have HF := hide (show (m : Int) = fstS l s by rw [fstS_at hlt (by rw [hm]; exact hbit) HN.out, hm])
        clear hm
        go_wp2_with fail; refine (implHas s m _ (by omega) (by omega)).mono ?_; rintro e w' ⟨rfl, rfl⟩
        go_wp2
        go_ret
        exact Same.int HF.out
      · rw [Bool.not_eq_true] at hbit
        have HN2 := hide (show ∀ i, i < c + 1 → s.testBit (l.getD i 0).toNat = false from fun i hi => by
          by_cases e : i = c
          · rw [e, hm]; exact hbit
          · exact HN.out i (by omega))
        clear hm
        go_wp2_with fail; refine (implHas s m _ (by omega) (by omega)).mono ?_; rintro e w' ⟨rfl, rfl⟩
        go_wp2
        go_round
        case rel => exact ⟨c + 1, by omega, by go_num, HN2⟩
        case measure => simp [intOf]; omega
    · have HF := hide (show (-1 : Int) = fstS l s from (fstS_none fun i hi => HN.out i (by omega)).symm)
      go_wp2
      go_ret
      exact Same.int HF.out
set_option maxHeartbeats 1000000 in
theorem implFirsts (sa : Option Addr) (cap n : Nat) (rk : List (List Int)) (s c : Nat) (w : World) (h : Mst w sa rk) (hn : rk.length = n) (hl : rk.length ≤ 2000000) (hr : ∀ i, i < rk.length → (rk.getD i []).length ≤ 2000000) (hs : s ≤ 1000000) (hx : ∀ i, i < rk.length → ∀ j, j < (rk.getD i []).length → 0 ≤ (rk.getD i []).getD j 0 ∧ (rk.getD i []).getD j 0 ≤ 60) :
    Calls Try.prog 80 #[.slice sa n cap, .int .i64 s, .int .i64 c] w (Same (.int .i64 (frN rk s c)) w) := by
  subst hn
  have H := hide h; clear h
  have HR := hide hr; clear hr
  have HX := hide hx; clear hx
  go_enter Try.func80, Try.ntmps80
  go_wp2
  go_loop [7, 12] (fun n i => ∃ (k : Nat) (q : Int), k ≤ rk.length ∧ i = .int .i64 k ∧ n = .int .i64 q ∧ Hid (q = acc (frF rk s) c k) ∧ 0 ≤ q ∧ q ≤ k) (fun _ i => rk.length - (intOf i).toNat)
  case atStart => exact ⟨0, 0, Nat.zero_le _, rfl, rfl, rfl, by omega, by omega⟩
  case round =>
    obtain ⟨k, q, hk, rfl, rfl, HQ, q0, q1⟩ := hrel
    by_cases hlt : k < rk.length
    · obtain ⟨g, off, si, ci, e, hg, c1, L1, _⟩ := H.out.at hlt
      cases e
      have hn := HR.out k hlt
      have hxk := HX.out k hlt
      by_cases hb : fstS (rk.getD k []) s = (c : Int)
      · have HQ2 := hide (show q + 1 = acc (frF rk s) c (k + 1) by rw [fr_yes hb, HQ.out])
        have hd : (fstS (rk.getD k []) s == (c : Int)) = true := beq_iff_eq.2 hb
        clear hb
        obtain ⟨x, hx⟩ : ∃ x, x = rk.getD k [] := ⟨_, rfl⟩; rw [← hx] at c1 L1 hn hd hxk
        clear hx
        have CC := implFirst si ci x.length x s w L1 rfl hn hs hxk
        clear hxk L1
        go_wp2_with fail; refine (CC).mono ?_; rintro e w' ⟨rfl, rfl⟩
        clear CC
        go_wp2
        go_round
        case rel => exact ⟨k + 1, q + 1, by omega, by go_num, by go_num, HQ2, by omega, by omega⟩
        case measure => simp [intOf]; omega
      · have HQ2 := hide (show q = acc (frF rk s) c (k + 1) by rw [fr_no hb, HQ.out])
        have hd : (fstS (rk.getD k []) s == (c : Int)) = false := by rw [beq_eq_false_iff_ne]; exact hb
        clear hb
        obtain ⟨x, hx⟩ : ∃ x, x = rk.getD k [] := ⟨_, rfl⟩; rw [← hx] at c1 L1 hn hd hxk
        clear hx
        have CC := implFirst si ci x.length x s w L1 rfl hn hs hxk
        clear hxk L1
        go_wp2_with fail; refine (CC).mono ?_; rintro e w' ⟨rfl, rfl⟩
        clear CC
        go_wp2
        go_round
        case rel => exact ⟨k + 1, q, by omega, by go_num, rfl, HQ2, by omega, by omega⟩
        case measure => simp [intOf]; omega
    · obtain rfl : k = rk.length := by omega
      have HF := hide (show q = frN rk s c by rw [HQ.out]; rfl)
      go_wp2
      go_ret
      exact Same.int HF.out
end Go.Proofs.Ytjdfdikifiljjac
