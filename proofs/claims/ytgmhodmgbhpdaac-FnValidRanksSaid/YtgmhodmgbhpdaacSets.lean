/- Chapter 2: sets of members: contracts of the program and of the model. -/
import Derived.Test.YtgmhodmgbhpdaacBody1
import Derived.Test.YtgmhodmgbhpdaacBits
namespace Go.Proofs.Ytgmhodmgbhpdaac
open Go.ChangeShapes Go.WideShapes Go.ChangeAt Go.RowKit Go.Joins Go.Sort
set_option linter.unusedVariables false

theorem implHas (s k : Nat) (w : World) (hs : s ≤ 1000000) (hk : k ≤ 60) : Calls Try.prog 93 #[.int .i64 s, .int .i64 k] w (Same (.bool (s.testBit k)) w) := by
  go_enter Try.func93, Try.ntmps93
  go_wp2
  go_ret
  exact Same.bool (bit_and s k hs)
set_option maxHeartbeats 400000 in
theorem specHas (s k : Nat) (w : World) (hs : s ≤ 1000000) (hk : k ≤ 60) : Calls Try.prog 92 #[.int .i64 s, .int .i64 k] w (Same (.bool (s.testBit k)) w) := by
  go_enter Try.func92, Try.ntmps92
  go_wp2
  go_loop [0, 5] (fun a i => ∃ c q : Nat, c ≤ k ∧ i = .int .i64 c ∧ a = .int .i64 q ∧ q = s / 2 ^ c ∧ q ≤ 1000000) (fun _ i => k - (intOf i).toNat)
  case atStart => exact ⟨0, s, Nat.zero_le _, rfl, rfl, by simp, hs⟩
  case round =>
    obtain ⟨c, q, hc, rfl, rfl, hq, hq2⟩ := hrel
    have HQ := hide hq; clear hq
    by_cases hlt : c < k
    · go_wp2
      go_round
      case rel => exact ⟨c + 1, q / 2, by omega, by go_num, by go_num, by rw [HQ.out, Nat.pow_succ, Nat.div_div_eq_div_mul], by omega⟩
      case measure => simp [intOf]; omega
    · obtain rfl : c = k := by omega
      go_wp2
      go_ret
      refine Same.bool ?_
      rw [Nat.testBit_eq_decide_div_mod_eq, ← HQ.out, Bool.eq_iff_iff]
      simp only [beq_iff_eq, decide_eq_true_eq]; omega
set_option maxHeartbeats 400000 in
theorem specPower (k : Nat) (w : World) (hk : k ≤ 40) : Calls Try.prog 67 #[.int .i64 k] w (Same (.int .i64 (pw k)) w) := by
  go_enter Try.func67, Try.ntmps67
  go_wp2
  go_loop [3, 4] (fun a i => ∃ c q : Nat, c ≤ k ∧ i = .int .i64 c ∧ a = .int .i64 q ∧ q = 2 ^ c ∧ q ≤ 1099511627776) (fun _ i => k - (intOf i).toNat)
  case atStart => exact ⟨0, 1, Nat.zero_le _, rfl, rfl, rfl, by omega⟩
  case round =>
    obtain ⟨c, q, hc, rfl, rfl, hq, hq2⟩ := hrel
    have HQ := hide hq; clear hq
    by_cases hlt : c < k
    · go_wp2
      go_round
      case rel =>
        have e : 2 * q = 2 ^ (c + 1) := by rw [HQ.out, Nat.pow_succ]; omega
        exact ⟨c + 1, 2 * q, by omega, by go_num, by go_num, e, by rw [e]; exact pow_le (b := 40) (by omega)⟩
      case measure => simp [intOf]; omega
    · obtain rfl : c = k := by omega
      go_wp2
      go_ret
      exact Same.int (by rw [HQ.out]; rfl)
set_option maxHeartbeats 400000 in
theorem specSetOf (sa : Option Addr) (cap : Nat) (l : List Int) (n : Nat) (w : World) (h : Lst w sa l) (hl : l.length ≤ 2000000) (hv : vmB l n = true) (hn : n ≤ 12) :
    Calls Try.prog 63 #[.slice sa l.length cap] w (Same (.int .i64 (setN l)) w) := by
  have H := hide h; clear h
  have HV := hide hv; clear hv
  go_enter Try.func63, Try.ntmps63
  go_wp2
  go_loop [3, 4] (fun a i => ∃ c q : Nat, c ≤ l.length ∧ i = .int .i64 c ∧ a = .int .i64 q ∧ q = setN (l.take c) ∧ q ≤ 4096) (fun _ i => l.length - (intOf i).toNat)
  case atStart => exact ⟨0, 0, Nat.zero_le _, rfl, rfl, rfl, by omega⟩
  case round =>
    obtain ⟨c, q, hc, rfl, rfl, hq, hq2⟩ := hrel
    have HQ := hide hq; clear hq
    by_cases hlt : c < l.length
    · obtain ⟨g, off, rfl, hg, c1⟩ := H.out.at hlt
      have hx := (vmB_iff.1 HV.out).1 _ (getD_mem hlt)
      obtain ⟨m, hm⟩ := Int.eq_ofNat_of_zero_le hx.1
      rw [hm] at c1 hx
      have hm12 : m ≤ 11 := by omega
      have hp : pw m ≤ 4096 := pow12 (n := m) (by omega)
      have HM := hide hm; clear hm
      go_wp2_with fail; refine (specPower m _ (by omega)).mono ?_; rintro e w' ⟨rfl, rfl⟩
      obtain ⟨p, hp2⟩ : ∃ p, p = pw m := ⟨_, rfl⟩; rw [← hp2] at hp ⊢
      have HP := hide hp2; clear hp2
      go_wp2
      go_round
      case rel =>
        have e : q + p = setN (l.take (c + 1)) := by rw [setN_take l c hlt, HM.out, Int.toNat_natCast, HQ.out, HP.out]; rfl
        refine ⟨c + 1, q + p, by omega, by go_num, by go_num, e, ?_⟩
        have h2 := setN_lt (l := l.take (c + 1)) (n := n) (vmB_iff.2 ⟨fun x hx => (vmB_iff.1 HV.out).1 x (mem_take hx), List.Sublist.nodup (List.take_sublist _ _) (vmB_iff.1 HV.out).2⟩)
        have h3 := pow12 (n := n) hn
        omega
      case measure => simp [intOf]; omega
    · have HF := hide (show l.take c = l from List.take_of_length_le (by omega))
      go_wp2
      go_ret
      exact Same.int (by rw [HQ.out, HF.out])
set_option maxHeartbeats 1000000 in
theorem implSetOf (sa : Option Addr) (cap : Nat) (l : List Int) (n : Nat) (w : World) (h : Lst w sa l) (hl : l.length ≤ 2000000) (hn : n ≤ 12) :
    Calls Try.prog 64 #[.slice sa l.length cap, .int .i64 n] w (Same (.int .i64 (setR l n)) w) := by
  have H := hide h; clear h
  go_enter Try.func64, Try.ntmps64
  go_wp2
  go_loop [5, 10] (fun a i => ∃ c q : Nat, c ≤ l.length ∧ i = .int .i64 c ∧ a = .int .i64 q ∧ q = setN (l.take c) ∧ q ≤ 4096 ∧ Hid (vmB (l.take c) n = true)) (fun _ i => l.length - (intOf i).toNat)
  case atStart => exact ⟨0, 0, Nat.zero_le _, rfl, rfl, rfl, by omega, vmB_iff.2 (by simp)⟩
  case round =>
    obtain ⟨c, q, hc, rfl, rfl, hq, hq2, HV⟩ := hrel
    have HQ := hide hq; clear hq
    by_cases hlt : c < l.length
    · obtain ⟨g, off, rfl, hg, c1⟩ := H.out.at hlt
      obtain ⟨x, hx⟩ : ∃ x, x = l.getD c 0 := ⟨_, rfl⟩; rw [← hx] at c1
      have HX := hide hx; clear hx
      by_cases hin : inr x 0 ((n : Int) - 1) = true
      · obtain ⟨hx0, hx1⟩ := inr_iff.1 hin
        obtain ⟨m, rfl⟩ := Int.eq_ofNat_of_zero_le hx0
        have hbit := setN_bit (l.take c) (fun x hx => ((vmB_iff.1 HV.out).1 x hx).1) (vmB_iff.1 HV.out).2 m
        rw [← HQ.out, HX.out] at hbit
        by_cases hmem : l.getD c 0 ∈ l.take c
        · rw [decide_eq_true hmem] at hbit
          have HF := hide (vm_twice hlt hmem : vmB l n = false)
          clear hmem hx0
          go_wp2_with fail; refine (implInr _ _ _ _).mono ?_; rintro e w' ⟨rfl, rfl⟩
          go_wp2_with fail; refine (implHas q m _ (by omega) (by omega)).mono ?_; rintro e w' ⟨rfl, rfl⟩
          go_wp2
          go_ret
          exact Same.int (by rw [setR_no HF.out])
        · rw [decide_eq_false hmem] at hbit
          have HV2 := hide (vm_step hlt HV.out (by rw [← HX.out]; exact hx0) (by rw [← HX.out]; exact hx1) hmem)
          have hp := pow_bd (m := m) (by omega)
          have HS := hide (show q + 2 ^ m = setN (l.take (c + 1)) by rw [setN_take l c hlt, ← HX.out, Int.toNat_natCast, HQ.out])
          have hlim := hide (show q + 2 ^ m ≤ 4096 by
            rw [HS.out]
            have h2 := setN_lt HV2.out
            have h3 := pow12 (n := n) hn
            omega)
          clear hmem hx0
          go_wp2_with fail; refine (implInr _ _ _ _).mono ?_; rintro e w' ⟨rfl, rfl⟩
          go_wp2_with fail; refine (implHas q m _ (by omega) (by omega)).mono ?_; rintro e w' ⟨rfl, rfl⟩
          go_wp2
          go_round
          case rel => exact ⟨c + 1, q + 2 ^ m, by omega, by go_num, by rw [Int.natCast_add, pow_cast], HS.out, hlim.out, HV2⟩
          case measure => simp [intOf]; omega
      · have HF := hide (vm_out (n := n) hlt fun h => hin (inr_iff.2 (by rw [HX.out]; exact h)))
        rw [Bool.not_eq_true] at hin
        go_wp2_with fail; refine (implInr _ _ _ _).mono ?_; rintro e w' ⟨rfl, rfl⟩
        go_wp2
        go_ret
        exact Same.int (by rw [setR_no HF.out])
    · have HF := hide (show l.take c = l from List.take_of_length_le (by omega))
      go_wp2
      go_ret
      exact Same.int (by rw [setR_yes (by have := HV.out; rwa [HF.out] at this), HQ.out, HF.out])
end Go.Proofs.Ytgmhodmgbhpdaac
