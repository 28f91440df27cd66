/- Chapter 2: the walks of the laws on preferences, at drawn arguments. -/
import Derived.Test.YtjdfdikifiljjacRanks5
import Derived.Test.YtjdfdikifiljjacDrawT
namespace Go.Proofs.Ytjdfdikifiljjac
open Go.ChangeShapes Go.WideShapes Go.ChangeAt Go.RowKit Go.Joins Go.Sort
set_option linter.unusedVariables false

theorem fst_spec {p : Nat → Bool} {n : Nat} (h : 0 ≤ fst p n) : ∃ k, k < n ∧ fst p n = (k : Int) ∧ p k = true := by
  induction n with
  | zero => unfold fst at h; omega
  | succ n ih =>
    unfold fst at h ⊢
    by_cases h0 : 0 ≤ fst p n
    · rw [if_pos h0] at h ⊢
      obtain ⟨k, h1, h2, h3⟩ := ih h0
      exact ⟨k, by omega, h2, h3⟩
    · rw [if_neg h0] at h ⊢
      by_cases hp : p n = true
      · rw [if_pos hp]; exact ⟨n, by omega, rfl, hp⟩
      · rw [if_neg hp] at h; omega
theorem ba_spec {rk : List (List Int)} (h : 0 ≤ ba rk) : vr rk = true ∧ ∃ k : Nat, k < (rk.getD 0 []).length ∧ ba rk = (k : Int) ∧ ∀ b : Nat, b < (rk.getD 0 []).length → b ≠ k → rk.length < 2 * bt rk k b := by
  by_cases hv : vr rk = true
  · rw [ba_yes hv] at h ⊢
    obtain ⟨k, h1, h2, h3⟩ := fst_spec h
    exact ⟨hv, k, h1, h2, btsB_iff.1 h3⟩
  · rw [Bool.not_eq_true] at hv
    rw [ba_no hv] at h; omega
theorem ba_neg {rk : List (List Int)} (h : ¬ 0 ≤ ba rk) : ba rk = -1 := by
  by_cases hv : vr rk = true
  · rw [ba_yes hv] at h ⊢
    have key : ∀ n, ¬ 0 ≤ fst (btsB rk) n → fst (btsB rk) n = -1 := by
      intro n
      induction n with
      | zero => intro _; rfl
      | succ n ih =>
        intro hn
        unfold fst at hn ⊢
        by_cases h0 : 0 ≤ fst (btsB rk) n
        · rw [if_pos h0] at hn; exact absurd h0 hn
        · rw [if_neg h0] at hn ⊢
          by_cases hp : btsB rk n = true
          · rw [if_pos hp] at hn; omega
          · rw [if_neg hp]
    exact key _ h
  · rw [Bool.not_eq_true] at hv; exact ba_no hv

set_option maxRecDepth 100000 in
set_option maxHeartbeats 1000000 in
theorem walkFnPrefer (w : World) (sa : Option Addr) (len cap : Nat) (h : Code w sa len cap) (hl : len ≤ maxLen) :
    Calls Try.prog 9 #[.slice sa len cap] w fun e w' => e = .returned (.bool true) ∧ Below w.heap.size w w' := by
  have hl' := hl
  unfold maxLen at hl'
  by_cases hbig : 1048576 < len
  · clear h hl
    go_enter Try.func9, Try.ntmps9
    go_wp2
    go_ret
    exact ⟨rfl, Below.refl _ _⟩
  · go_enter Try.func9, Try.ntmps9
    go_wp2_with fail
    refine (dDrawPrefer sa len cap w h hl).mono ?_
    rintro e w1 ⟨sb, cb, rk, hs, a, b, rfl, hM, l1, l2, hrl, i0, i1, k0, k1, E1⟩
    have HM := hide hM.mst
    have HR := hide (show ∀ i, i < rk.length → (rk.getD i []).length ≤ 2000000 from fun i hi => by have := hrl i hi; omega)
    clear h hl hl' hbig hM hrl
    by_cases hc : vr rk = true ∧ chs rk a b
    · have e1 := prf_yes hc.1 hc.2
      have e2 := prf_yes hc.1 hc.2.symm
      have hsum := bt_sum hc.1 hc.2
      have CI := hide fun w h => implPrefer sb cb rk a b w h (by omega) HR.out
      have CS := hide fun w h => specPrefer sb cb rk a b w h (by omega) HR.out
      have CB := hide fun w h => implPrefer sb cb rk b a w h (by omega) HR.out
      rw [e1] at CI CS
      rw [e2] at CB
      obtain ⟨x, hx⟩ : ∃ x, x = bt rk a b := ⟨_, rfl⟩
      obtain ⟨y, hy⟩ : ∃ y, y = bt rk b a := ⟨_, rfl⟩
      rw [← hx] at CI CS hsum
      rw [← hy] at CB hsum
      have hne : ((x : Int) != (x : Int)) = false := by simp
      have hlt : decide ((x : Int) < 0) = false := decide_eq_false (by omega)
      have hs2 : ((x : Int) + (y : Int) == (rk.length : Int)) = true := by rw [beq_iff_eq]; omega
      have hb1 : x + y ≤ 8 := by omega
      clear hx hy e1 e2 hc hsum
      go_wp2_with fail; refine (CI.out _ HM.out).mono ?_; rintro e w' ⟨rfl, rfl⟩
      go_wp2_with fail; refine (CS.out _ HM.out).mono ?_; rintro e w2 ⟨rfl, E2⟩
      go_wp2_with fail; refine (CB.out _ (HM.out.ext E2)).mono ?_; rintro e w' ⟨rfl, rfl⟩
      go_wp2
      go_ret
      exact ⟨rfl, E1.trans E2⟩
    · have e1 := prf_no hc
      have CI := hide fun w h => implPrefer sb cb rk a b w h (by omega) HR.out
      have CS := hide fun w h => specPrefer sb cb rk a b w h (by omega) HR.out
      rw [e1] at CI CS
      clear e1 hc
      go_wp2_with fail; refine (CI.out _ HM.out).mono ?_; rintro e w' ⟨rfl, rfl⟩
      go_wp2_with fail; refine (CS.out _ HM.out).mono ?_; rintro e w2 ⟨rfl, E2⟩
      go_wp2_with fail; refine (CS.out _ (HM.out.ext E2)).mono ?_; rintro e w3 ⟨rfl, E3⟩
      go_wp2
      go_ret
      exact ⟨rfl, E1.trans (E2.trans E3)⟩

set_option maxRecDepth 100000 in
set_option maxHeartbeats 1000000 in
theorem walkFnBeatsAll (w : World) (sa : Option Addr) (len cap : Nat) (h : Code w sa len cap) (hl : len ≤ maxLen) :
    Calls Try.prog 10 #[.slice sa len cap] w fun e w' => e = .returned (.bool true) ∧ Below w.heap.size w w' := by
  have hl' := hl
  unfold maxLen at hl'
  by_cases hbig : 1048576 < len
  · clear h hl
    go_enter Try.func10, Try.ntmps10
    go_wp2
    go_ret
    exact ⟨rfl, Below.refl _ _⟩
  · go_enter Try.func10, Try.ntmps10
    go_wp2_with fail
    refine (dDrawBeatsAll sa len cap w h hl).mono ?_
    rintro e w1 ⟨sb, cb, rk, hs, rfl, hM, l1, l2, hrl, E1⟩
    have HM := hide hM.mst
    have HR := hide (show ∀ i, i < rk.length → (rk.getD i []).length ≤ 2000000 from fun i hi => by have := hrl i hi; omega)
    clear h hl hl' hbig hM hrl
    have CI := hide fun w h => implBA sb cb rk w h (by omega) HR.out
    have CS := hide fun w h => specBA sb cb rk w h (by omega) HR.out
    by_cases h0 : 0 ≤ ba rk
    · obtain ⟨hv, a, ha, e, hb⟩ := ba_spec h0
      obtain ⟨_, _, hc1, hc6, _⟩ := vr_iff.1 hv
      have CP := hide fun w h (b : Nat) (hb : b < (rk.getD 0 []).length) (hne : b ≠ a) => (show Calls _ _ _ w (Same (.int .i64 (bt rk (a : Int) (b : Int))) w) by
        have := implPrefer sb cb rk (a : Int) (b : Int) w h (by omega) HR.out
        rwa [prf_yes hv ⟨by omega, ⟨by omega, by omega⟩, ⟨by omega, by omega⟩⟩] at this)
      have HB := hide hb
      have HL := hide (bt_le rk)
      rw [e] at CI CS
      obtain ⟨g, off, s0, k0, rfl, hg, e0, _, _⟩ := HM.out.at (i := 0) (by omega)
      rw [Nat.add_zero] at e0
      have hne : ((a : Int) != (a : Int)) = false := by simp
      have hlt : decide ((a : Int) < 0) = false := decide_eq_false (by omega)
      obtain ⟨ch, hch⟩ : ∃ ch, ch = (rk.getD 0 []).length := ⟨_, rfl⟩; rw [← hch] at e0 CP HB ha hc1 hc6
      clear hch hb e h0 hv
      go_wp2_with fail; refine (CI.out _ HM.out).mono ?_; rintro e w' ⟨rfl, rfl⟩
      go_wp2_with fail; refine (CS.out _ HM.out).mono ?_; rintro e w2 ⟨rfl, E2⟩
      have e2 := (E2.cell (o := off) hg).trans e0
      go_wp2
      go_loop [5] (fun i => ∃ k : Nat, k ≤ ch ∧ i = .int .i64 k) (fun i => ch - (intOf i).toNat)
      case atStart => exact ⟨0, Nat.zero_le _, rfl⟩
      case round =>
        obtain ⟨k, hk, rfl⟩ := hrel
        by_cases hlk : k < ch
        · by_cases hka : k = a
          · have hd : ((k : Int) != (a : Int)) = false := eq_len hka
            clear hka
            go_wp2
            go_round
            case rel => exact ⟨k + 1, by omega, by go_num⟩
            case measure => simp [intOf]; omega
          · have hd : ((k : Int) != (a : Int)) = true := ne_len hka
            have hb := HB.out k hlk hka
            have hb2 := HL.out (a : Int) (k : Int)
            have C := CP.out w2 (HM.out.ext E2) k hlk hka
            obtain ⟨x, hx⟩ : ∃ x, x = bt rk (a : Int) (k : Int) := ⟨_, rfl⟩; rw [← hx] at hb hb2 C
            have hd2 : decide (2 * (x : Int) ≤ (rk.length : Int)) = false := decide_eq_false (by omega)
            clear hx hka
            go_wp2_with fail; refine (C).mono ?_; rintro e w' ⟨rfl, rfl⟩
            go_wp2
            go_round
            case rel => exact ⟨k + 1, by omega, by go_num⟩
            case measure => simp [intOf]; omega
        · obtain rfl : k = ch := by omega
          have hal : decide ((a : Int) < (k : Int)) = true := decide_eq_true (by omega)
          go_wp2
          go_ret
          exact ⟨rfl, E1.trans E2⟩
    · have e := ba_neg h0
      rw [e] at CI CS
      clear h0 e
      go_wp2_with fail; refine (CI.out _ HM.out).mono ?_; rintro e w' ⟨rfl, rfl⟩
      go_wp2_with fail; refine (CS.out _ HM.out).mono ?_; rintro e w2 ⟨rfl, E2⟩
      go_wp2_with fail; refine (CS.out _ (HM.out.ext E2)).mono ?_; rintro e w3 ⟨rfl, E3⟩
      go_wp2
      go_ret
      exact ⟨rfl, E1.trans (E2.trans E3)⟩
end Go.Proofs.Ytjdfdikifiljjac
