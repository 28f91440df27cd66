/- The generator's members and ballots: contracts over the reader. -/
import Derived.Test.YthbkkbcbhhmhoaaDrawC
namespace Go.Proofs.Ythbkkbcbhhmhoaa
open Go.ChangeShapes Go.WideShapes Go.ChangeAt Go.RowKit Go.Joins
set_option linter.unusedVariables false

/-- a list that was drawn -/
def MemOut (B g p k n : Nat) (w : World) (e : Ending) (w' : World) : Prop :=
  ∃ (sm : Option Addr) (cm : Nat) (m : List Int), e = .returned (.slice sm m.length cm) ∧ Row w.heap.size w' sm cm m ∧ m.length ≤ n + 1 ∧ (∃ q, q ≤ p + k ∧ Rdr B w' g q) ∧ But g w w'

set_option maxHeartbeats 2000000 in
theorem someMembers_any (B g p n : Nat) (w : World) (hr : Rdr B w g p) (hp : p < 9000) (hn : n ≤ 20) :
    Calls Try.prog 68 #[.pointer (some ⟨g, 0, none⟩), .int .i64 n] w (MemOut B g p 60 n w) := by
  have hlt := hr.lt
  have hr0 := hr.alloc (.cells #[] 3)
  have hB0 := (But.refl g w).alloc (.cells #[] 3)
  go_enter Try.func68, Try.ntmps68
  go_wp2
  go_loopw [5, 6] (fun v i wr => ∃ (c : Nat) (s2 : Option Addr) (c2 : Nat) (o : List Int), c ≤ n ∧ i = .int .i64 c ∧ v = .slice s2 o.length c2 ∧ o.length ≤ c ∧ Row w.heap.size wr s2 c2 o ∧ Hid (∀ x ∈ o, -1 ≤ x ∧ x ≤ 100) ∧ Rdr B wr g (p + c) ∧ But g w wr) (fun _ i _ => n - (intOf i).toNat)
  case atStart => exact ⟨0, _, 0, [], Nat.zero_le _, rfl, rfl, Nat.zero_le _, Row.made _ _ (Nat.le_refl _), (show ∀ x ∈ ([] : List Int), _ from fun x hx => by simp at hx), hr0, hB0⟩
  case round =>
    clear hr0 hB0
    obtain ⟨c, s2, c2, o, hc, rfl, rfl, ho, hR, HO, hr1, hB1⟩ := hrel
    by_cases hlt2 : c < n
    · go_wp2_with fail
      refine (pick_pos B g (p + c) 2 _ hr1 (by omega) (by omega)).mono ?_
      rintro e w2 ⟨v, rfl, v0, v1, hr2, hb2, hs2⟩
      have hR2 := hR.but hb2 (by omega)
      have hB2 := hB1.trans hb2
      clear hs2
      by_cases hv : v = 0
      · subst hv
        go_wp2_with (first | (at_builtin; refine append_int rfl _ _ rfl w.heap.size w2 s2 c2 o (c : Int) _ rfl rfl hR2 (by omega) hB2.size ?_; intro g4 c4 w4 R4 hb4))
        have hr4 := hr2.below hb4 (by omega)
        have hB4 := hB2.below hb4 (by omega)
        have HO4 := hide (show ∀ x ∈ o ++ [(c : Int)], -1 ≤ x ∧ x ≤ 100 from fun x hx => by
          rw [List.mem_append, List.mem_singleton] at hx
          rcases hx with hx | rfl
          · exact HO.out x hx
          · omega)
        clear hb4
        go_wp2
        go_roundw
        case rel => exact ⟨c + 1, _, _, _, by omega, by go_num, by rw [len_snocC o (c : Int)], by simp; omega, R4, HO4, hr4, hB4⟩
        case measure => simp [intOf]; omega
      · have hd : (v == 0) = false := by rw [beq_eq_false_iff_ne]; exact hv
        go_wp2
        go_roundw
        case rel => exact ⟨c + 1, _, _, _, by omega, by go_num, rfl, by omega, hR2, HO, hr2, hB2⟩
        case measure => simp [intOf]; omega
    · have hcn : c = n := by omega
      have hd : decide ((c : Int) < (n : Int)) = false := decide_eq_false (by omega)
      clear hlt2
      by_cases h0 : 0 < o.length
      · have hd0 : decide ((0 : Int) < (o.length : Int)) = true := decide_eq_true (by omega)
        go_wp2_with fail
        refine (pick_pos B g (p + c) 16 _ hr1 (by omega) (by omega)).mono ?_
        rintro e w2 ⟨v, rfl, v0, v1, hr2, hb2, hs2⟩
        have hR2 := hR.but hb2 (by omega)
        have hB2 := hB1.trans hb2
        clear hs2
        by_cases hv : v = 0
        · subst hv
          obtain ⟨b, rfl, e2, e3, e4, e5⟩ := hR2.spot h0
          have cv := e5 0 h0
          have hx0 := HO.out _ (getD_mem h0)
          clear e4 e5
          obtain ⟨x, hx⟩ : ∃ x, x = o.getD 0 0 := ⟨_, rfl⟩; rw [← hx] at cv hx0
          clear hx
          go_wp2_with fail
          refine (one_at B g (p + c + 1) [x, -1, n] (-1) 100 _ _ _ _ rfl rfl hr2 (by omega) (by simp) (by simp) (by simp; omega)).mono ?_
          rintro e w3 ⟨y, rfl, y0, y1, hr3, hb3, hs3⟩
          have hR3 := (hR2.ext ((Ext.refl _).alloc _)).but hb3 (by omega)
          have hB3 := (hB2.alloc _).trans hb3
          clear hs3
          go_wp2_with (first | (at_builtin; refine append_int rfl _ _ rfl w.heap.size w3 _ c2 o y _ rfl rfl hR3 (by omega) hB3.size ?_; intro g4 c4 w4 R4 hb4))
          have hr4 := hr3.below hb4 (by omega)
          have hB4 := hB3.below hb4 (by omega)
          clear hb4
          go_wp2
          go_ret
          exact ⟨some ⟨g4, 0, none⟩, c4, o ++ [y], by rw [← len_snocC o y]; rfl, R4, by simp; omega, ⟨_, by omega, hr4⟩, hB4⟩
        · have hd2 : (v == 0) = false := by rw [beq_eq_false_iff_ne]; exact hv
          go_wp2
          go_ret
          exact ⟨s2, c2, o, rfl, hR2, by omega, ⟨_, by omega, hr2⟩, hB2⟩
      · have hd0 : decide ((0 : Int) < (o.length : Int)) = false := decide_eq_false (by omega)
        go_wp2
        go_ret
        exact ⟨s2, c2, o, rfl, hR, by omega, ⟨_, by omega, hr1⟩, hB1⟩
end Go.Proofs.Ythbkkbcbhhmhoaa
