/- The arguments that the laws on orders draw. -/
import Derived.Test.YthbkkbcbhhmhoacDrawO
namespace Go.Proofs.Ythbkkbcbhhmhoac
open Go.ChangeShapes Go.WideShapes Go.ChangeAt Go.RowKit Go.Joins
set_option linter.unusedVariables false

def LOut (w : World) (e : Ending) (w' : World) : Prop :=
  ∃ (sa : Option Addr) (cap : Nat) (l : List Int), e = .returned (.slice sa l.length cap) ∧ Row w.heap.size w' sa cap l ∧ l.length ≤ 12 ∧ Ext w w'
def LIOut (w : World) (e : Ending) (w' : World) : Prop :=
  ∃ (sa : Option Addr) (cap : Nat) (l : List Int) (a : Int), e = .returned (.tuple #[.slice sa l.length cap, .int .i64 a]) ∧ Row w.heap.size w' sa cap l ∧ l.length ≤ 12 ∧ Ext w w'
def LIIOut (w : World) (e : Ending) (w' : World) : Prop :=
  ∃ (sa : Option Addr) (cap : Nat) (l : List Int) (a b : Int), e = .returned (.tuple #[.slice sa l.length cap, .int .i64 a, .int .i64 b]) ∧ Row w.heap.size w' sa cap l ∧ l.length ≤ 12 ∧ -20 ≤ a ∧ a ≤ 10000 ∧ -20 ≤ b ∧ b ≤ 20 ∧ Ext w w'
set_option maxHeartbeats 400000 in
theorem dDrawRankOrder (sa : Option Addr) (len cap : Nat) (w : World) (h : Code w sa len cap) (hl : len ≤ maxLen) :
    Calls Try.prog 31 #[.slice sa len cap] w (LOut w) := by
  go_enter Try.func31, Try.ntmps31
  go_wp2_with fail
  refine (newReader_any _ _ _ _ h hl).mono ?_
  rintro e w1 ⟨rfl, hr1, hb1, hs1⟩
  have hE1 : Ext w w1 := Ext.of hb1
  have hz1 : w.heap.size ≤ w1.heap.size := hE1.size
  have hgl := hr1.lt
  have hB1 := But.of_below (g := w.heap.size) hE1
  clear hb1 hs1 h
  go_wp2_with fail
  refine (anyOrder_any _ _ _ _ hr1 (by omega)).mono ?_
  rintro e w2 ⟨sl, cl, l, rfl, Rl, _, nl, ⟨q2, hq2, hr2⟩, hb2⟩
  have hB2 := hB1.trans hb2
  have hzl : w.heap.size ≤ w1.heap.size := hB1.size
  have hgl : w.heap.size < w1.heap.size := hr1.lt
  clear hr1 hb2 hB1
  have EE := Ext.of (hB2.to_below (B := w.heap.size) (Nat.le_refl _) (Nat.le_refl _))
  go_wp2
  go_ret
  exact ⟨sl, cl, l, rfl, Rl.le hzl, nl, EE⟩
set_option maxHeartbeats 400000 in
theorem dDrawSwapTurns (sa : Option Addr) (len cap : Nat) (w : World) (h : Code w sa len cap) (hl : len ≤ maxLen) :
    Calls Try.prog 41 #[.slice sa len cap] w (LIIOut w) := by
  go_enter Try.func41, Try.ntmps41
  go_wp2_with fail
  refine (newReader_any _ _ _ _ h hl).mono ?_
  rintro e w1 ⟨rfl, hr1, hb1, hs1⟩
  have hE1 : Ext w w1 := Ext.of hb1
  have hz1 : w.heap.size ≤ w1.heap.size := hE1.size
  have hgl := hr1.lt
  have hB1 := But.of_below (g := w.heap.size) hE1
  clear hb1 hs1 h
  go_wp2_with fail
  refine (anyOrder_any _ _ _ _ hr1 (by omega)).mono ?_
  rintro e w2 ⟨sl, cl, l, rfl, Rl, _, nl, ⟨q2, hq2, hr2⟩, hb2⟩
  have hB2 := hB1.trans hb2
  have hzl : w.heap.size ≤ w1.heap.size := hB1.size
  have hgl : w.heap.size < w1.heap.size := hr1.lt
  clear hr1 hb2 hB1
  go_wp2_with fail
  refine (one_at _ _ _ [0, 1, 2, -1] (-1) (2) _ _ _ w2 rfl rfl hr2 (by omega) (by simp) (by simp) (by intro z hz; simp at hz; omega)).mono ?_
  rintro e w3 ⟨a, rfl, a0, a1, hr3, hb3, hs3⟩
  have hb3 := ((But.refl w.heap.size w2).alloc _).trans hb3
  have hB3 := hB2.trans hb3
  have Rl := Rl.but hb3 hgl
  clear hr2 hb3 hs3 hB2
  go_wp2_with fail
  refine (one_at _ _ _ [1, 0, 2, 3, 12] (0) (12) _ _ _ w3 rfl rfl hr3 (by omega) (by simp) (by simp) (by intro z hz; simp at hz; omega)).mono ?_
  rintro e w4 ⟨b, rfl, b0, b1, hr4, hb4, hs4⟩
  have hb4 := ((But.refl w.heap.size w3).alloc _).trans hb4
  have hB4 := hB3.trans hb4
  have Rl := Rl.but hb4 hgl
  clear hr3 hb4 hs4 hB3
  have EE := Ext.of (hB4.to_below (B := w.heap.size) (Nat.le_refl _) (Nat.le_refl _))
  go_wp2
  refine bodyPost_ret (v := .tuple #[.slice sl l.length cl, .int .i64 a, .int .i64 b]) (by simp [results, Try.results41, go_sem]) rfl ?_
  exact ⟨sl, cl, l, a, b, rfl, Rl.le hzl, nl, by omega, by omega, by omega, by omega, EE⟩
end Go.Proofs.Ythbkkbcbhhmhoac
