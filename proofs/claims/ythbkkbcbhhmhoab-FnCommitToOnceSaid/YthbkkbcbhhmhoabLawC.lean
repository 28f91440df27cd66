/- Chapter 3: the walks of the laws of commitments, at drawn arguments. -/
import Derived.Test.YthbkkbcbhhmhoabDrawP
import Derived.Test.YthbkkbcbhhmhoabCom1
namespace Go.Proofs.Ythbkkbcbhhmhoab
open Go.ChangeShapes Go.WideShapes Go.ChangeAt Go.RowKit Go.Joins Go.Sort
set_option linter.unusedVariables false
theorem cm_next {v s : Int} (h : cOk v s) (h2 : cOk (v + 1) s) : (cmt (v + 1) s - cmt v s - 7919) % 99991 = 0 := by unfold cmt; omega
theorem cm_other {v s : Int} {d : Int} (h0 : 1 ≤ d) (h1 : d ≤ 30) : cmt (v + d) s ≠ cmt v s := by
  unfold cmt
  rw [Int.add_mul]
  generalize v * 7919 = x
  generalize s * s = y
  omega
set_option maxHeartbeats 400000 in
theorem walkFnCommitTo (w : World) (sa : Option Addr) (len cap : Nat) (h : Code w sa len cap) (hl : len ≤ maxLen) :
    Calls Try.prog 8 #[.slice sa len cap] w fun e w' => e = .returned (.bool true) ∧ Below w.heap.size w w' := by
  have hl' := hl
  unfold maxLen at hl'
  by_cases hbig : 1048576 < len
  · clear h hl
    go_enter Try.func8, Try.ntmps8
    go_wp2
    go_ret
    exact ⟨rfl, Below.refl _ _⟩
  · go_enter Try.func8, Try.ntmps8
    go_wp2_with fail
    refine (dDrawCommitTo sa len cap w h hl).mono ?_
    rintro e w1 ⟨a, b, rfl, a0, a1, b0, b1, E1⟩
    clear h hl hl' hbig
    have HP1 := hide (fun w => implCommit a b w)
    have HP2 := hide (fun w => specCommitTo a b w)
    by_cases hok : cOk a b
    · rw [cm_yes hok] at HP1 HP2
      have hb := cmt_bd hok
      by_cases h1 : a = 50000
      · have hd : (a == 50000) = true := by rw [beq_iff_eq]; exact h1
        obtain ⟨q, hq⟩ : ∃ q, q = cmt a b := ⟨_, rfl⟩; rw [← hq] at HP1 HP2 hb
        have hd0 : ((q : Int) != q) = false := by simp
        clear hok h1 hq
        go_wp2_with fail; refine (HP1.out _).mono ?_; rintro e w' ⟨rfl, rfl⟩
        go_wp2_with fail; refine (HP2.out _).mono ?_; rintro e w' ⟨rfl, rfl⟩
        go_wp2
        go_ret
        exact ⟨rfl, E1⟩
      · have hd : (a == 50000) = false := by rw [beq_eq_false_iff_ne]; exact h1
        have hok2 : cOk (a + 1) b := ⟨by have := hok.1; omega, hok.2⟩
        have HP3 := hide (fun w => implCommit (a + 1) b w)
        rw [cm_yes hok2] at HP3
        have hb3 := cmt_bd hok2
        have hn := cm_next hok hok2
        have hn2 : ((cmt (a + 1) b - cmt a b - 7919).tmod 99991 == 0) = true := by
          rw [beq_iff_eq]; exact Int.tmod_eq_zero_of_dvd (Int.dvd_of_emod_eq_zero hn)
        clear hn
        obtain ⟨q, hq⟩ : ∃ q, q = cmt a b := ⟨_, rfl⟩; rw [← hq] at HP1 HP2 hb hn2
        obtain ⟨r, hr⟩ : ∃ r, r = cmt (a + 1) b := ⟨_, rfl⟩; rw [← hr] at HP3 hb3 hn2
        have hd0 : ((q : Int) != q) = false := by simp
        clear hok hok2 h1 hq hr
        go_wp2_with fail; refine (HP1.out _).mono ?_; rintro e w' ⟨rfl, rfl⟩
        go_wp2_with fail; refine (HP2.out _).mono ?_; rintro e w' ⟨rfl, rfl⟩
        go_wp2_with fail; refine (HP3.out _).mono ?_; rintro e w' ⟨rfl, rfl⟩
        go_wp2
        go_ret
        exact ⟨rfl, E1⟩
    · rw [cm_no hok] at HP1 HP2
      clear hok
      go_wp2_with fail; refine (HP1.out _).mono ?_; rintro e w' ⟨rfl, rfl⟩
      go_wp2_with fail; refine (HP2.out _).mono ?_; rintro e w' ⟨rfl, rfl⟩
      go_wp2_with fail; refine (HP2.out _).mono ?_; rintro e w' ⟨rfl, rfl⟩
      go_wp2
      go_ret
      exact ⟨rfl, E1⟩
set_option maxHeartbeats 400000 in
theorem walkFnCommitToOnce (w : World) (sa : Option Addr) (len cap : Nat) (h : Code w sa len cap) (hl : len ≤ maxLen) :
    Calls Try.prog 9 #[.slice sa len cap] w fun e w' => e = .returned (.bool true) ∧ Below w.heap.size w w' := by
  have hl' := hl
  unfold maxLen at hl'
  by_cases hbig : 1048576 < len
  · clear h hl
    go_enter Try.func9, Try.ntmps9
    go_wp2
    go_ret
    exact ⟨rfl, Below.refl _ _⟩
  · go_enter Try.func9, Try.ntmps9
    go_wp2_with fail
    refine (dDrawCommitTo sa len cap w h hl).mono ?_
    rintro e w1 ⟨a, b, rfl, a0, a1, b0, b1, E1⟩
    clear h hl hl' hbig
    have HP1 := hide (fun w => implCommit a b w)
    have HP2 := hide (fun w => specCommitTo a b w)
    by_cases hok : cOk a b
    · rw [cm_yes hok] at HP1 HP2
      have hb := cmt_bd hok
      have HK := hide hok
      have HN := hide (fun d w (h1 : 1 ≤ d) (h2 : d ≤ 30) (h3 : a + d ≤ 50000) => by
        have := implCommit (a + d) b w
        rwa [cm_yes (show cOk (a + d) b from ⟨⟨by have := HK.out.1.1; omega, h3⟩, HK.out.2⟩)] at this)
      have HO := hide (fun (d : Int) (h1 : 1 ≤ d) (h2 : d ≤ 30) => @cm_other a b d h1 h2)
      obtain ⟨q, hq⟩ : ∃ q, q = cmt a b := ⟨_, rfl⟩; rw [← hq] at HP1 HP2 hb HO
      have hd0 : ((q : Int) != q) = false := by simp
      clear hok hq
      go_wp2_with fail; refine (HP1.out _).mono ?_; rintro e w' ⟨rfl, rfl⟩
      go_wp2_with fail; refine (HP2.out _).mono ?_; rintro e w' ⟨rfl, rfl⟩
      go_wp2
      go_loop [6] (fun i => ∃ d : Int, 1 ≤ d ∧ d ≤ 31 ∧ i = .int .i64 d) (fun i => (32 - intOf i).toNat)
      case atStart => exact ⟨1, by omega, by omega, rfl⟩
      case round =>
        obtain ⟨d, d1, d2, rfl⟩ := hrel
        by_cases h3 : d ≤ 30
        · by_cases h5 : a + d ≤ 50000
          · have HN2 := hide (HN.out d w1 d1 h3 h5)
            have hne := HO.out d d1 h3
            have hd1 : (cmt (a + d) b == q) = false := by rw [beq_eq_false_iff_ne]; exact hne
            obtain ⟨z, hz⟩ : ∃ z, z = cmt (a + d) b := ⟨_, rfl⟩; rw [← hz] at HN2 hd1
            clear hz hne
            go_wp2_with fail; refine (HN2.out).mono ?_; rintro e w' ⟨rfl, rfl⟩
            go_wp2
            go_round
            case rel => exact ⟨d + 1, by omega, by omega, by go_num⟩
            case measure => simp [intOf]; omega
          · go_wp2
            go_ret
            exact ⟨rfl, E1⟩
        · go_wp2
          go_ret
          exact ⟨rfl, E1⟩
    · rw [cm_no hok] at HP1 HP2
      clear hok
      go_wp2_with fail; refine (HP1.out _).mono ?_; rintro e w' ⟨rfl, rfl⟩
      go_wp2_with fail; refine (HP2.out _).mono ?_; rintro e w' ⟨rfl, rfl⟩
      go_wp2_with fail; refine (HP2.out _).mono ?_; rintro e w' ⟨rfl, rfl⟩
      go_wp2
      go_ret
      exact ⟨rfl, E1⟩
end Go.Proofs.Ythbkkbcbhhmhoab
