/- Chapter 3: the walk of the exact law of what reveals draw. -/
import Derived.Test.YthbkkbcbhhmhoabExR3
namespace Go.Proofs.Ythbkkbcbhhmhoab
open Go.ChangeShapes Go.WideShapes Go.ChangeAt Go.RowKit Go.Joins Go.Sort
set_option linter.unusedVariables false

set_option maxRecDepth 100000 in
set_option maxHeartbeats 2000000 in
theorem walkFnExactDrawOf (w : World) (sa0 : Option Addr) (cap0 : Nat) (l0 : List Rv) (n1 : Int) (h0 : Rst w sa0 l0) (m0 : l0.length ≤ maxLen) :
    Calls Try.prog 7 #[.slice sa0 l0.length cap0, .int .i64 n1] w fun e w' => e = .returned (.bool true) ∧ Below w.heap.size w w' := by
  have H0 := hide h0; clear h0
  by_cases hsz : (l0.length : Int) ≤ 1048576; rotate_left
  · have hz := hide (szf_no hsz)
    go_enter Try.func7, Try.ntmps7
    go_wp2_with fail; refine (szRevealS_any _ _ _ _ _ m0 (by omega) (by omega)).mono ?_; rintro e w' ⟨rfl, rfl⟩
    rw [hz.out]; go_wp2; go_ret; exact ⟨rfl, Ext.refl w⟩
  have hz := hide (szf_yes hsz)
  have hz0 : 0 ≤ (1048576 : Int) - (l0.length : Int) := by omega
  have hl : l0.length ≤ 2000000 := by omega
  have HP1 := hide (fun s w2 (h : Rst w2 s l0) => specDraw s l0.length l0 n1 w2 h hl)
  have HP2 := hide (fun s w2 (h : Rst w2 s l0) => implDraw s l0.length l0 n1 w2 h hl)
  unfold DwRet at HP1 HP2
  obtain ⟨z0, hz0'⟩ : ∃ z0, z0 = dwS l0 n1 := ⟨_, rfl⟩; rw [← hz0'] at HP1 HP2
  obtain ⟨z1, hz1'⟩ : ∃ z1, z1 = dwC l0 n1 := ⟨_, rfl⟩; rw [← hz1'] at HP1 HP2
  clear hz0' hz1'
  have hd0 : (z0 != z0) = false := by simp
  have hd1 : (z1 != z1) = false := by simp
  go_enter Try.func7, Try.ntmps7
  go_wp2_with fail; refine (szRevealS_any _ _ _ _ _ m0 (by omega) (by omega)).mono ?_; rintro e w' ⟨rfl, rfl⟩
  rw [hz.out]
  go_wp2_with fail; refine (toRevealS_any _ _ l0 _ H0.out hl).mono ?_; rintro e w2 ⟨m2, rfl, A2, ml2, mi2, E2⟩
  have R2 := hide (A2.rst ml2 mi2)
  clear ml2 mi2 A2
  go_wp2_with fail; refine (HP1.out _ _ R2.out).mono ?_; rintro e w3 ⟨rfl, E3⟩
  have A3 := E2.trans E3; clear E2 E3 R2
  go_wp2_with fail; refine (toRevealS_any _ _ l0 _ (H0.out.ext A3) hl).mono ?_; rintro e w4 ⟨m4, rfl, A4, ml4, mi4, E4⟩
  have R4 := hide (A4.rst ml4 mi4)
  clear ml4 mi4 A4
  have A34 := A3.trans E4
  go_wp2_with fail; refine (HP2.out _ _ R4.out).mono ?_; rintro e w5 ⟨rfl, E5⟩
  have A5 := A34.trans E5
  go_wp2_with fail; refine (toRevealS_any _ _ l0 _ (H0.out.ext A5) hl).mono ?_; rintro e w7 ⟨m7, rfl, A7, ml7, mi7, E7⟩
  have R7 := hide (A7.rst ml7 mi7)
  clear ml7 mi7 A7
  go_wp2_with fail; refine (eqRevealS_same _ _ _ _ l0 _ (R4.out.ext (E5.trans E7)) R7.out hl).mono ?_; rintro e w8 ⟨rfl, E8⟩
  have AE := (A5.trans E7).trans E8
  go_wp2
  go_ret
  exact ⟨rfl, AE⟩
end Go.Proofs.Ythbkkbcbhhmhoab
