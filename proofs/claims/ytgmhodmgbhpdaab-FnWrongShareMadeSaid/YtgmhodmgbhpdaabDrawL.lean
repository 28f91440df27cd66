/- Chapter 4: the arguments that the laws of keys draw. -/
import Derived.Test.YtgmhodmgbhpdaabDrawK
namespace Go.Proofs.Ytgmhodmgbhpdaab
open Go.ChangeShapes Go.WideShapes Go.ChangeAt Go.RowKit Go.Joins Go.Sort
set_option linter.unusedVariables false

def IOk (w : World) (e : Ending) (w' : World) : Prop := ∃ a : Int, e = .returned (.int .i64 a) ∧ -1 ≤ a ∧ a ≤ 300 ∧ Ext w w'
def LIk (w : World) (e : Ending) (w' : World) : Prop :=
  ∃ (sa : Option Addr) (cap : Nat) (l : List Int) (a : Int), e = .returned (.tuple #[.slice sa l.length cap, .int .i64 a]) ∧ Row w.heap.size w' sa cap l ∧ l.length ≤ 8 ∧ -1 ≤ a ∧ a ≤ 300 ∧ Ext w w'
def LLk (w : World) (e : Ending) (w' : World) : Prop :=
  ∃ (sa : Option Addr) (cap : Nat) (l : List Int) (sb : Option Addr) (cb : Nat) (m : List Int), e = .returned (.tuple #[.slice sa l.length cap, .slice sb m.length cb]) ∧ Row w.heap.size w' sa cap l ∧ Row w.heap.size w' sb cb m ∧ l.length ≤ 8 ∧ m.length ≤ 8 ∧ Ext w w'
def Sk (w : World) (e : Ending) (w' : World) : Prop :=
  ∃ (sa : Option Addr) (cap : Nat) (l : List Sh), e = .returned (.slice sa l.length cap) ∧ RowS w.heap.size w' sa cap l ∧ l.length ≤ 8 ∧ Ext w w'
def SIk (w : World) (e : Ending) (w' : World) : Prop :=
  ∃ (sa : Option Addr) (cap : Nat) (l : List Sh) (a : Int), e = .returned (.tuple #[.slice sa l.length cap, .int .i64 a]) ∧ RowS w.heap.size w' sa cap l ∧ l.length ≤ 8 ∧ -1 ≤ a ∧ a ≤ 300 ∧ Ext w w'
def SLk (w : World) (e : Ending) (w' : World) : Prop :=
  ∃ (sa : Option Addr) (cap : Nat) (l : List Sh) (sb : Option Addr) (cb : Nat) (m : List Int), e = .returned (.tuple #[.slice sa l.length cap, .slice sb m.length cb]) ∧ RowS w.heap.size w' sa cap l ∧ Row w.heap.size w' sb cb m ∧ l.length ≤ 8 ∧ m.length ≤ 8 ∧ Ext w w'
def SSk (w : World) (e : Ending) (w' : World) : Prop :=
  ∃ (sa : Option Addr) (cap : Nat) (l : List Sh) (sb : Option Addr) (cb : Nat) (m : List Sh), e = .returned (.tuple #[.slice sa l.length cap, .slice sb m.length cb]) ∧ RowS w.heap.size w' sa cap l ∧ RowS w.heap.size w' sb cb m ∧ l.length ≤ 8 ∧ m.length ≤ 8 ∧ Ext w w'
set_option maxHeartbeats 800000 in
theorem dDrawDealShares (sa : Option Addr) (len cap : Nat) (w : World) (h : Code w sa len cap) (hl : len ≤ maxLen) :
    Calls Try.prog 25 #[.slice sa len cap] w (LLk w) := by
  go_enter Try.func25, Try.ntmps25
  go_wp2_with fail
  refine (newReader_any _ _ _ _ h hl).mono ?_
  rintro e w1 ⟨rfl, hr1, hb1, hs1⟩
  have hE1 : Ext w w1 := Ext.of hb1
  have hz1 : w.heap.size ≤ w1.heap.size := hE1.size
  have hgl := hr1.lt
  have hB1 := But.of_below (g := w.heap.size) hE1
  clear hb1 hs1 h
  go_wp2_with fail
  refine (someCoefs_any _ _ _ _ hr1 (by omega)).mono ?_
  rintro e w2 ⟨sl, cl, l, rfl, RRl, nl, _, ⟨q2, hq2, hr2⟩, hb2⟩
  have hB2 := hB1.trans hb2
  have hzl : w.heap.size ≤ w1.heap.size := hB1.size
  have hgl : w.heap.size < w1.heap.size := hr1.lt
  have Rl := RRl
  clear hr1 hb2 hB1 RRl
  go_wp2_with fail
  refine (somePlaces_any _ _ _ _ hr2 (by omega)).mono ?_
  rintro e w3 ⟨sm, cm, m, rfl, RRm, nm, _, ⟨q3, hq3, hr3⟩, hb3⟩
  have hB3 := hB2.trans hb3
  have hzm : w.heap.size ≤ w2.heap.size := hB2.size
  have hgm : w.heap.size < w2.heap.size := hr2.lt
  have Rl := Rl.but hb3 hgl
  have Rm := RRm
  clear hr2 hb3 hB2 RRm
  have EE := Ext.of (hB3.to_below (B := w.heap.size) (Nat.le_refl _) (Nat.le_refl _))
  go_wp2
  refine bodyPost_ret (v := .tuple #[.slice sl l.length cl, .slice sm m.length cm]) (by simp [results, Try.results25, go_sem]) rfl ?_
  exact ⟨sl, cl, l, sm, cm, m, rfl, Rl.le hzl, Rm.le hzm, nl, nm, EE⟩
set_option maxHeartbeats 800000 in
theorem dDrawRefreshShares (sa : Option Addr) (len cap : Nat) (w : World) (h : Code w sa len cap) (hl : len ≤ maxLen) :
    Calls Try.prog 41 #[.slice sa len cap] w (SLk w) := by
  go_enter Try.func41, Try.ntmps41
  go_wp2_with fail
  refine (newReader_any _ _ _ _ h hl).mono ?_
  rintro e w1 ⟨rfl, hr1, hb1, hs1⟩
  have hE1 : Ext w w1 := Ext.of hb1
  have hz1 : w.heap.size ≤ w1.heap.size := hE1.size
  have hgl := hr1.lt
  have hB1 := But.of_below (g := w.heap.size) hE1
  clear hb1 hs1 h
  go_wp2_with fail
  refine (someShares_any _ _ _ _ hr1 (by omega)).mono ?_
  rintro e w2 ⟨sl, cl, l, rfl, RRl, nl, ⟨q2, hq2, hr2⟩, hb2⟩
  have hB2 := hB1.trans hb2
  have hzl : w.heap.size ≤ w1.heap.size := hB1.size
  have hgl : w.heap.size < w1.heap.size := hr1.lt
  have Rl := RRl
  clear hr1 hb2 hB1 RRl
  go_wp2_with fail
  refine (someCoefs_any _ _ _ _ hr2 (by omega)).mono ?_
  rintro e w3 ⟨sm, cm, m, rfl, RRm, nm, _, ⟨q3, hq3, hr3⟩, hb3⟩
  have hB3 := hB2.trans hb3
  have hzm : w.heap.size ≤ w2.heap.size := hB2.size
  have hgm : w.heap.size < w2.heap.size := hr2.lt
  have Rl := Rl.but hb3 hgl
  have Rm := RRm
  clear hr2 hb3 hB2 RRm
  have EE := Ext.of (hB3.to_below (B := w.heap.size) (Nat.le_refl _) (Nat.le_refl _))
  go_wp2
  refine bodyPost_ret (v := .tuple #[.slice sl l.length cl, .slice sm m.length cm]) (by simp [results, Try.results41, go_sem]) rfl ?_
  exact ⟨sl, cl, l, sm, cm, m, rfl, Rl.le hzl, Rm.le hzm, nl, nm, EE⟩
set_option maxHeartbeats 800000 in
theorem dDrawPolyWith (sa : Option Addr) (len cap : Nat) (w : World) (h : Code w sa len cap) (hl : len ≤ maxLen) :
    Calls Try.prog 45 #[.slice sa len cap] w (SIk w) := by
  go_enter Try.func45, Try.ntmps45
  go_wp2_with fail
  refine (newReader_any _ _ _ _ h hl).mono ?_
  rintro e w1 ⟨rfl, hr1, hb1, hs1⟩
  have hE1 : Ext w w1 := Ext.of hb1
  have hz1 : w.heap.size ≤ w1.heap.size := hE1.size
  have hgl := hr1.lt
  have hB1 := But.of_below (g := w.heap.size) hE1
  clear hb1 hs1 h
  go_wp2_with fail
  refine (someShares_any _ _ _ _ hr1 (by omega)).mono ?_
  rintro e w2 ⟨sl, cl, l, rfl, RRl, nl, ⟨q2, hq2, hr2⟩, hb2⟩
  have hB2 := hB1.trans hb2
  have hzl : w.heap.size ≤ w1.heap.size := hB1.size
  have hgl : w.heap.size < w1.heap.size := hr1.lt
  have Rl := RRl
  clear hr1 hb2 hB1 RRl
  go_wp2_with fail
  refine (pick_pos _ _ _ 251 _ hr2 (by omega) (by omega)).mono ?_
  rintro e w3 ⟨v, rfl, v0, v1, hr3, hb3, hs3⟩
  have hB3 := hB2.trans hb3
  have Rl := Rl.but hb3 hgl
  clear hr2 hb3 hs3 hB2
  go_wp2_with fail
  refine (one_at _ _ _ [v, 0, 250, 251, -1] (-1) (300) _ _ _ w3 rfl rfl hr3 (by omega) (by simp) (by simp) (by intro z hz; simp at hz; omega)).mono ?_
  rintro e w4 ⟨a, rfl, a0, a1, hr4, hb4, hs4⟩
  have hb4 := ((But.refl w.heap.size w3).alloc _).trans hb4
  have hB4 := hB3.trans hb4
  have Rl := Rl.but hb4 hgl
  clear hr3 hb4 hs4 hB3
  have EE := Ext.of (hB4.to_below (B := w.heap.size) (Nat.le_refl _) (Nat.le_refl _))
  go_wp2
  refine bodyPost_ret (v := .tuple #[.slice sl l.length cl, .int .i64 a]) (by simp [results, Try.results45, go_sem]) rfl ?_
  exact ⟨sl, cl, l, a, rfl, Rl.le hzl, nl, by omega, by omega, EE⟩
end Go.Proofs.Ytgmhodmgbhpdaab
