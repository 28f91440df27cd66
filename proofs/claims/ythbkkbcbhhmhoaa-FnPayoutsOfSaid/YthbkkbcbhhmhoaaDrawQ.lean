/- The arguments that the laws on orders draw. -/
import Derived.Test.YthbkkbcbhhmhoaaDrawO
namespace Go.Proofs.Ythbkkbcbhhmhoaa
open Go.ChangeShapes Go.WideShapes Go.ChangeAt Go.RowKit Go.Joins
set_option linter.unusedVariables false

def LOut (w : World) (e : Ending) (w' : World) : Prop :=
  ∃ (sa : Option Addr) (cap : Nat) (l : List Int), e = .returned (.slice sa l.length cap) ∧ Row w.heap.size w' sa cap l ∧ l.length ≤ 12 ∧ Ext w w'
def LIOut (w : World) (e : Ending) (w' : World) : Prop :=
  ∃ (sa : Option Addr) (cap : Nat) (l : List Int) (a : Int), e = .returned (.tuple #[.slice sa l.length cap, .int .i64 a]) ∧ Row w.heap.size w' sa cap l ∧ l.length ≤ 12 ∧ Ext w w'
def LIIOut (w : World) (e : Ending) (w' : World) : Prop :=
  ∃ (sa : Option Addr) (cap : Nat) (l : List Int) (a b : Int), e = .returned (.tuple #[.slice sa l.length cap, .int .i64 a, .int .i64 b]) ∧ Row w.heap.size w' sa cap l ∧ l.length ≤ 12 ∧ -20 ≤ a ∧ a ≤ 10000 ∧ -20 ≤ b ∧ b ≤ 20 ∧ Ext w w'
set_option maxHeartbeats 400000 in
theorem dDrawValidOrder (sa : Option Addr) (len cap : Nat) (w : World) (h : Code w sa len cap) (hl : len ≤ maxLen) :
    Calls Try.prog 35 #[.slice sa len cap] w (LOut w) := by
  go_enter Try.func35, Try.ntmps35
  go_wp2_with fail
  refine (newReader_any _ _ _ _ h hl).mono ?_
  rintro e w1 ⟨rfl, hr1, hb1, hs1⟩
  have hE1 : Ext w w1 := Ext.of hb1
  have hz1 : w.heap.size ≤ w1.heap.size := hE1.size
  have hgl := hr1.lt
  have hB1 := But.of_below (g := w.heap.size) hE1
  clear hb1 hs1 h
  go_wp2_with fail
  refine (anyOrder_any _ _ _ _ hr1 (by omega)).mono ?_
  rintro e w2 ⟨sl, cl, l, rfl, Rl, _, nl, ⟨q2, hq2, hr2⟩, hb2⟩
  have hB2 := hB1.trans hb2
  have hzl : w.heap.size ≤ w1.heap.size := hB1.size
  have hgl : w.heap.size < w1.heap.size := hr1.lt
  clear hr1 hb2 hB1
  have EE := Ext.of (hB2.to_below (B := w.heap.size) (Nat.le_refl _) (Nat.le_refl _))
  go_wp2
  go_ret
  exact ⟨sl, cl, l, rfl, Rl.le hzl, nl, EE⟩
set_option maxHeartbeats 400000 in
theorem dDrawTurnOf (sa : Option Addr) (len cap : Nat) (w : World) (h : Code w sa len cap) (hl : len ≤ maxLen) :
    Calls Try.prog 38 #[.slice sa len cap] w (LIOut w) := by
  go_enter Try.func38, Try.ntmps38
  go_wp2_with fail
  refine (newReader_any _ _ _ _ h hl).mono ?_
  rintro e w1 ⟨rfl, hr1, hb1, hs1⟩
  have hE1 : Ext w w1 := Ext.of hb1
  have hz1 : w.heap.size ≤ w1.heap.size := hE1.size
  have hgl := hr1.lt
  have hB1 := But.of_below (g := w.heap.size) hE1
  clear hb1 hs1 h
  go_wp2_with fail
  refine (anyOrder_any _ _ _ _ hr1 (by omega)).mono ?_
  rintro e w2 ⟨sl, cl, l, rfl, Rl, _, nl, ⟨q2, hq2, hr2⟩, hb2⟩
  have hB2 := hB1.trans hb2
  have hzl : w.heap.size ≤ w1.heap.size := hB1.size
  have hgl : w.heap.size < w1.heap.size := hr1.lt
  clear hr1 hb2 hB1
  go_wp2_with fail
  refine (one_at _ _ _ [0, 1, 2, 3, -1, 12] (-1) (12) _ _ _ w2 rfl rfl hr2 (by omega) (by simp) (by simp) (by intro z hz; simp at hz; omega)).mono ?_
  rintro e w3 ⟨a, rfl, a0, a1, hr3, hb3, hs3⟩
  have hb3 := ((But.refl w.heap.size w2).alloc _).trans hb3
  have hB3 := hB2.trans hb3
  have Rl := Rl.but hb3 hgl
  clear hr2 hb3 hs3 hB2
  have EE := Ext.of (hB3.to_below (B := w.heap.size) (Nat.le_refl _) (Nat.le_refl _))
  go_wp2
  refine bodyPost_ret (v := .tuple #[.slice sl l.length cl, .int .i64 a]) (by simp [results, Try.results38, go_sem]) rfl ?_
  exact ⟨sl, cl, l, a, rfl, Rl.le hzl, nl, EE⟩
set_option maxHeartbeats 1000000 in
theorem dDrawNetAfter (sa : Option Addr) (len cap : Nat) (w : World) (h : Code w sa len cap) (hl : len ≤ maxLen) :
    Calls Try.prog 39 #[.slice sa len cap] w (LIIOut w) := by
  go_enter Try.func39, Try.ntmps39
  go_wp2_with fail
  refine (newReader_any _ _ _ _ h hl).mono ?_
  rintro e w1 ⟨rfl, hr1, hb1, hs1⟩
  have hE1 : Ext w w1 := Ext.of hb1
  have hz1 : w.heap.size ≤ w1.heap.size := hE1.size
  have hgl := hr1.lt
  have hB1 := But.of_below (g := w.heap.size) hE1
  clear hb1 hs1 h
  go_wp2_with fail
  refine (anyOrder_any _ _ _ _ hr1 (by omega)).mono ?_
  rintro e w2 ⟨sl, cl, l, rfl, Rl, _, nl, ⟨q2, hq2, hr2⟩, hb2⟩
  have hB2 := hB1.trans hb2
  have hzl : w.heap.size ≤ w1.heap.size := hB1.size
  have hgl : w.heap.size < w1.heap.size := hr1.lt
  clear hr1 hb2 hB1
  go_wp2_with fail
  refine (one_at _ _ _ [100, 1, 0, 10000, -1] (-1) (10000) _ _ _ w2 rfl rfl hr2 (by omega) (by simp) (by simp) (by intro z hz; simp at hz; omega)).mono ?_
  rintro e w3 ⟨a, rfl, a0, a1, hr3, hb3, hs3⟩
  have hb3 := ((But.refl w.heap.size w2).alloc _).trans hb3
  have hB3 := hB2.trans hb3
  have Rl := Rl.but hb3 hgl
  clear hr2 hb3 hs3 hB2
  go_wp2_with fail
  refine (pick_pos _ _ _ (l.length + 1) _ hr3 (by omega) (by omega)).mono ?_
  rintro e w4 ⟨v, rfl, v0, v1, hr4, hb4, hs4⟩
  have hB4 := hB3.trans hb4
  have Rl := Rl.but hb4 hgl
  clear hr3 hb4 hs4 hB3
  go_wp2_with fail
  refine (one_at _ _ _ [v, (l.length : Int), 0, (l.length : Int) + 1, -1] (-1) (13) _ _ _ w4 rfl rfl hr4 (by omega) (by simp) (by simp) (by intro z hz; simp at hz; omega)).mono ?_
  rintro e w5 ⟨b, rfl, b0, b1, hr5, hb5, hs5⟩
  have hb5 := ((But.refl w.heap.size w4).alloc _).trans hb5
  have hB5 := hB4.trans hb5
  have Rl := Rl.but hb5 hgl
  clear hr4 hb5 hs5 hB4
  have EE := Ext.of (hB5.to_below (B := w.heap.size) (Nat.le_refl _) (Nat.le_refl _))
  go_wp2
  refine bodyPost_ret (v := .tuple #[.slice sl l.length cl, .int .i64 a, .int .i64 b]) (by simp [results, Try.results39, go_sem]) rfl ?_
  exact ⟨sl, cl, l, a, b, rfl, Rl.le hzl, nl, by omega, by omega, by omega, by omega, EE⟩
theorem dDrawCreditAfter (sa : Option Addr) (len cap : Nat) (w : World) (h : Code w sa len cap) (hl : len ≤ maxLen) :
    Calls Try.prog 43 #[.slice sa len cap] w (LIIOut w) := by
  go_enter Try.func43, Try.ntmps43
  go_wp2_with fail
  refine (dDrawNetAfter _ _ _ _ h hl).mono ?_
  rintro e w1 ⟨sb, cb, l, a, b, rfl, R, n, x1, x2, x3, x4, E⟩
  go_wp2
  refine bodyPost_ret (v := .tuple #[.slice sb l.length cb, .int .i64 a, .int .i64 b]) (by simp [results, Try.results43, go_sem]) rfl ?_
  exact ⟨sb, cb, l, a, b, rfl, R, n, x1, x2, x3, x4, E⟩
end Go.Proofs.Ythbkkbcbhhmhoaa
