/- Lists of integers written over with numbers from a greater one on. -/
import Derived.Test.YtgmhodmgbhpdaabBodyX
namespace Go.Proofs.Ytgmhodmgbhpdaab
open Go.ChangeShapes Go.WideShapes Go.ChangeAt Go.RowKit Go.Joins Go.Sort
set_option linter.unusedVariables false

set_option maxHeartbeats 1000000 in
theorem markIntS_mid2 (lo hi : Nat) (sa : Option Addr) (cap : Nat) (l : List Int) (m : Int) (w : World) (h : Row lo w sa cap l) (hh : ∀ g off, sa = some ⟨g, off, none⟩ → g < hi) (hl : l.length ≤ 2000000) (hm0 : 0 ≤ m) (hm : m ≤ 8000000) :
    Calls Try.prog 40 #[.slice sa l.length cap, .int .i64 m] w (MarkMid lo hi sa m l.length w) := by
  rcases h.form with h0 | ⟨g, cur, rfl, h2, h3, h4⟩
  · clear h
    subst h0
    go_enter Try.func40, Try.ntmps40
    go_wp2
    go_loopw [1, 5] (fun k i wr => i = .int .i64 0 ∧ k = .int .i64 m ∧ w = wr) (fun _ _ _ => 0)
    case atStart => exact ⟨rfl, rfl, rfl⟩
    case round =>
      obtain ⟨rfl, rfl, rfl⟩ := hrel
      go_wp2
      go_ret
      exact ⟨ret_int (by simp), .inl rfl, Mid.refl _ _ _⟩
  · have hg2 := hh g 0 rfl
    clear h hh
    obtain ⟨n, hn⟩ : ∃ n, n = l.length := ⟨_, rfl⟩
    have hcells : ∀ j, j < n → ∃ u, w.cell? ⟨g, j, none⟩ = some u := fun j hj => ⟨_, (cell_of_block h3 j).trans (h4 j (by omega))⟩
    have hfz : ∀ j, w.frozen? ⟨g, j, none⟩ = false := fun j => unfrozen_of_block h3 j
    have hgs := size_of_heap h3
    rw [← hn] at hl ⊢
    clear hn h3 h4
    have HC := hide hcells
    have HF := hide hfz
    clear hcells hfz
    go_enter Try.func40, Try.ntmps40
    go_wp2
    go_loopw [1, 5] (fun k i wr => ∃ c : Nat, c ≤ n ∧ i = .int .i64 c ∧ k = .int .i64 (m + c) ∧ (∀ j, j < c → wr.cell? ⟨g, j, none⟩ = some (.int .i64 (m + j))) ∧ (∀ j, j < n → ∃ u, wr.cell? ⟨g, j, none⟩ = some u) ∧ (∀ j, wr.frozen? ⟨g, j, none⟩ = false) ∧ g < wr.heap.size ∧ Mid lo hi w wr)
      (fun _ i _ => n - (intOf i).toNat)
    case atStart => exact ⟨0, Nat.zero_le _, rfl, by simp, fun j hj => by omega, HC.out, HF.out, hgs, Mid.refl _ _ _⟩
    case round =>
      clear HC HF
      obtain ⟨c, hc, rfl, rfl, r1, r2, r3, r4, hB⟩ := hrel
      have R1 := hide r1
      have R2 := hide r2
      have R3 := hide r3
      have HB := hide hB
      clear r1 r2 r3 hB
      by_cases hlt : c < n
      · obtain ⟨u, hu⟩ := R2.out c hlt
        have hf := R3.out c
        go_wp2
        go_roundw
        case rel =>
          refine ⟨c + 1, by omega, by go_num, by go_num, fun j hj => ?_, fun j hj => ?_, fun j => ?_, by simpa using r4, HB.out.poke h2 hg2 _ _⟩
          · by_cases e : j = c
            · subst e; exact World.cell?_setCell_same' _ _ _ (by rw [hu]; rfl)
            · rw [World.cell?_setCell_other _ _ _ _ (by first | omega | (simp; done) | (simp; omega))]; exact R1.out j (by omega)
          · by_cases e : j = c
            · subst e; exact ⟨_, World.cell?_setCell_same' _ _ _ (by rw [hu]; rfl)⟩
            · rw [World.cell?_setCell_other _ _ _ _ (by first | omega | (simp; done) | (simp; omega))]; exact R2.out j hj
          · simpa using R3.out j
        case measure => simp [intOf]; omega
      · obtain rfl : c = n := by omega
        go_wp2
        go_ret
        refine ⟨rfl, .inr ⟨g, 0, rfl, r4, fun i hi => ?_⟩, HB.out⟩
        rw [marks_len] at hi
        rw [marks_at _ _ _ hi]; simpa using R1.out i hi
end Go.Proofs.Ytgmhodmgbhpdaab
