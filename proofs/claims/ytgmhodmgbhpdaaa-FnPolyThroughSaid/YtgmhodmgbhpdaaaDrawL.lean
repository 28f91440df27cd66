/- Chapter 4: the arguments that the laws of keys draw. -/
import Derived.Test.YtgmhodmgbhpdaaaDrawK
namespace Go.Proofs.Ytgmhodmgbhpdaaa
open Go.ChangeShapes Go.WideShapes Go.ChangeAt Go.RowKit Go.Joins Go.Sort
set_option linter.unusedVariables false

def IOk (w : World) (e : Ending) (w' : World) : Prop := ∃ a : Int, e = .returned (.int .i64 a) ∧ -1 ≤ a ∧ a ≤ 300 ∧ Ext w w'
def LIk (w : World) (e : Ending) (w' : World) : Prop :=
  ∃ (sa : Option Addr) (cap : Nat) (l : List Int) (a : Int), e = .returned (.tuple #[.slice sa l.length cap, .int .i64 a]) ∧ Row w.heap.size w' sa cap l ∧ l.length ≤ 8 ∧ -1 ≤ a ∧ a ≤ 300 ∧ Ext w w'
def LLk (w : World) (e : Ending) (w' : World) : Prop :=
  ∃ (sa : Option Addr) (cap : Nat) (l : List Int) (sb : Option Addr) (cb : Nat) (m : List Int), e = .returned (.tuple #[.slice sa l.length cap, .slice sb m.length cb]) ∧ Row w.heap.size w' sa cap l ∧ Row w.heap.size w' sb cb m ∧ l.length ≤ 8 ∧ m.length ≤ 8 ∧ Ext w w'
def Sk (w : World) (e : Ending) (w' : World) : Prop :=
  ∃ (sa : Option Addr) (cap : Nat) (l : List Sh), e = .returned (.slice sa l.length cap) ∧ RowS w.heap.size w' sa cap l ∧ l.length ≤ 8 ∧ Ext w w'
def SIk (w : World) (e : Ending) (w' : World) : Prop :=
  ∃ (sa : Option Addr) (cap : Nat) (l : List Sh) (a : Int), e = .returned (.tuple #[.slice sa l.length cap, .int .i64 a]) ∧ RowS w.heap.size w' sa cap l ∧ l.length ≤ 8 ∧ -1 ≤ a ∧ a ≤ 300 ∧ Ext w w'
def SLk (w : World) (e : Ending) (w' : World) : Prop :=
  ∃ (sa : Option Addr) (cap : Nat) (l : List Sh) (sb : Option Addr) (cb : Nat) (m : List Int), e = .returned (.tuple #[.slice sa l.length cap, .slice sb m.length cb]) ∧ RowS w.heap.size w' sa cap l ∧ Row w.heap.size w' sb cb m ∧ l.length ≤ 8 ∧ m.length ≤ 8 ∧ Ext w w'
def SSk (w : World) (e : Ending) (w' : World) : Prop :=
  ∃ (sa : Option Addr) (cap : Nat) (l : List Sh) (sb : Option Addr) (cb : Nat) (m : List Sh), e = .returned (.tuple #[.slice sa l.length cap, .slice sb m.length cb]) ∧ RowS w.heap.size w' sa cap l ∧ RowS w.heap.size w' sb cb m ∧ l.length ≤ 8 ∧ m.length ≤ 8 ∧ Ext w w'
set_option maxHeartbeats 800000 in
theorem dDrawInverseOf (sa : Option Addr) (len cap : Nat) (w : World) (h : Code w sa len cap) (hl : len ≤ maxLen) :
    Calls Try.prog 17 #[.slice sa len cap] w (IOk w) := by
  go_enter Try.func17, Try.ntmps17
  go_wp2_with fail
  refine (newReader_any _ _ _ _ h hl).mono ?_
  rintro e w1 ⟨rfl, hr1, hb1, hs1⟩
  have hE1 : Ext w w1 := Ext.of hb1
  have hz1 : w.heap.size ≤ w1.heap.size := hE1.size
  have hgl := hr1.lt
  have hB1 := But.of_below (g := w.heap.size) hE1
  clear hb1 hs1 h
  go_wp2_with fail
  refine (pick_pos _ _ _ 250 _ hr1 (by omega) (by omega)).mono ?_
  rintro e w2 ⟨v, rfl, v0, v1, hr2, hb2, hs2⟩
  have hB2 := hB1.trans hb2
  clear hr1 hb2 hs2 hB1
  go_wp2_with fail
  refine (one_at _ _ _ [1 + v, 1, 250, 0, 251, -1] (-1) (300) _ _ _ w2 rfl rfl hr2 (by omega) (by simp) (by simp) (by intro z hz; simp at hz; omega)).mono ?_
  rintro e w3 ⟨a, rfl, a0, a1, hr3, hb3, hs3⟩
  have hb3 := ((But.refl w.heap.size w2).alloc _).trans hb3
  have hB3 := hB2.trans hb3
  clear hr2 hb3 hs3 hB2
  have EE := Ext.of (hB3.to_below (B := w.heap.size) (Nat.le_refl _) (Nat.le_refl _))
  go_wp2
  go_ret
  exact ⟨a, rfl, by omega, by omega, EE⟩
set_option maxHeartbeats 800000 in
theorem dDrawPolyAt (sa : Option Addr) (len cap : Nat) (w : World) (h : Code w sa len cap) (hl : len ≤ maxLen) :
    Calls Try.prog 22 #[.slice sa len cap] w (LIk w) := by
  go_enter Try.func22, Try.ntmps22
  go_wp2_with fail
  refine (newReader_any _ _ _ _ h hl).mono ?_
  rintro e w1 ⟨rfl, hr1, hb1, hs1⟩
  have hE1 : Ext w w1 := Ext.of hb1
  have hz1 : w.heap.size ≤ w1.heap.size := hE1.size
  have hgl := hr1.lt
  have hB1 := But.of_below (g := w.heap.size) hE1
  clear hb1 hs1 h
  go_wp2_with fail
  refine (someCoefs_any _ _ _ _ hr1 (by omega)).mono ?_
  rintro e w2 ⟨sl, cl, l, rfl, RRl, nl, _, ⟨q2, hq2, hr2⟩, hb2⟩
  have hB2 := hB1.trans hb2
  have hzl : w.heap.size ≤ w1.heap.size := hB1.size
  have hgl : w.heap.size < w1.heap.size := hr1.lt
  have Rl := RRl
  clear hr1 hb2 hB1 RRl
  go_wp2_with fail
  refine (pick_pos _ _ _ 251 _ hr2 (by omega) (by omega)).mono ?_
  rintro e w3 ⟨v, rfl, v0, v1, hr3, hb3, hs3⟩
  have hB3 := hB2.trans hb3
  have Rl := Rl.but hb3 hgl
  clear hr2 hb3 hs3 hB2
  go_wp2_with fail
  refine (one_at _ _ _ [v, 0, 1, 250, 251, -1] (-1) (300) _ _ _ w3 rfl rfl hr3 (by omega) (by simp) (by simp) (by intro z hz; simp at hz; omega)).mono ?_
  rintro e w4 ⟨a, rfl, a0, a1, hr4, hb4, hs4⟩
  have hb4 := ((But.refl w.heap.size w3).alloc _).trans hb4
  have hB4 := hB3.trans hb4
  have Rl := Rl.but hb4 hgl
  clear hr3 hb4 hs4 hB3
  have EE := Ext.of (hB4.to_below (B := w.heap.size) (Nat.le_refl _) (Nat.le_refl _))
  go_wp2
  refine bodyPost_ret (v := .tuple #[.slice sl l.length cl, .int .i64 a]) (by simp [results, Try.results22, go_sem]) rfl ?_
  exact ⟨sl, cl, l, a, rfl, Rl.le hzl, nl, by omega, by omega, EE⟩
set_option maxHeartbeats 800000 in
theorem dDrawValidShares (sa : Option Addr) (len cap : Nat) (w : World) (h : Code w sa len cap) (hl : len ≤ maxLen) :
    Calls Try.prog 33 #[.slice sa len cap] w (Sk w) := by
  go_enter Try.func33, Try.ntmps33
  go_wp2_with fail
  refine (newReader_any _ _ _ _ h hl).mono ?_
  rintro e w1 ⟨rfl, hr1, hb1, hs1⟩
  have hE1 : Ext w w1 := Ext.of hb1
  have hz1 : w.heap.size ≤ w1.heap.size := hE1.size
  have hgl := hr1.lt
  have hB1 := But.of_below (g := w.heap.size) hE1
  clear hb1 hs1 h
  go_wp2_with fail
  refine (someShares_any _ _ _ _ hr1 (by omega)).mono ?_
  rintro e w2 ⟨sl, cl, l, rfl, RRl, nl, ⟨q2, hq2, hr2⟩, hb2⟩
  have hB2 := hB1.trans hb2
  have hzl : w.heap.size ≤ w1.heap.size := hB1.size
  have hgl : w.heap.size < w1.heap.size := hr1.lt
  have Rl := RRl
  clear hr1 hb2 hB1 RRl
  have EE := Ext.of (hB2.to_below (B := w.heap.size) (Nat.le_refl _) (Nat.le_refl _))
  go_wp2
  go_ret
  exact ⟨sl, cl, l, rfl, Rl.le hzl, nl, EE⟩
set_option maxHeartbeats 800000 in
theorem dDrawPolyThrough (sa : Option Addr) (len cap : Nat) (w : World) (h : Code w sa len cap) (hl : len ≤ maxLen) :
    Calls Try.prog 38 #[.slice sa len cap] w (Sk w) := by
  go_enter Try.func38, Try.ntmps38
  go_wp2_with fail
  refine (newReader_any _ _ _ _ h hl).mono ?_
  rintro e w1 ⟨rfl, hr1, hb1, hs1⟩
  have hE1 : Ext w w1 := Ext.of hb1
  have hz1 : w.heap.size ≤ w1.heap.size := hE1.size
  have hgl := hr1.lt
  have hB1 := But.of_below (g := w.heap.size) hE1
  clear hb1 hs1 h
  go_wp2_with fail
  refine (someShares_any _ _ _ _ hr1 (by omega)).mono ?_
  rintro e w2 ⟨sl, cl, l, rfl, RRl, nl, ⟨q2, hq2, hr2⟩, hb2⟩
  have hB2 := hB1.trans hb2
  have hzl : w.heap.size ≤ w1.heap.size := hB1.size
  have hgl : w.heap.size < w1.heap.size := hr1.lt
  have Rl := RRl
  clear hr1 hb2 hB1 RRl
  have EE := Ext.of (hB2.to_below (B := w.heap.size) (Nat.le_refl _) (Nat.le_refl _))
  go_wp2
  go_ret
  exact ⟨sl, cl, l, rfl, Rl.le hzl, nl, EE⟩
set_option maxHeartbeats 800000 in
theorem dDrawOpenSecret (sa : Option Addr) (len cap : Nat) (w : World) (h : Code w sa len cap) (hl : len ≤ maxLen) :
    Calls Try.prog 42 #[.slice sa len cap] w (Sk w) := by
  go_enter Try.func42, Try.ntmps42
  go_wp2_with fail
  refine (newReader_any _ _ _ _ h hl).mono ?_
  rintro e w1 ⟨rfl, hr1, hb1, hs1⟩
  have hE1 : Ext w w1 := Ext.of hb1
  have hz1 : w.heap.size ≤ w1.heap.size := hE1.size
  have hgl := hr1.lt
  have hB1 := But.of_below (g := w.heap.size) hE1
  clear hb1 hs1 h
  go_wp2_with fail
  refine (someShares_any _ _ _ _ hr1 (by omega)).mono ?_
  rintro e w2 ⟨sl, cl, l, rfl, RRl, nl, ⟨q2, hq2, hr2⟩, hb2⟩
  have hB2 := hB1.trans hb2
  have hzl : w.heap.size ≤ w1.heap.size := hB1.size
  have hgl : w.heap.size < w1.heap.size := hr1.lt
  have Rl := RRl
  clear hr1 hb2 hB1 RRl
  have EE := Ext.of (hB2.to_below (B := w.heap.size) (Nat.le_refl _) (Nat.le_refl _))
  go_wp2
  go_ret
  exact ⟨sl, cl, l, rfl, Rl.le hzl, nl, EE⟩
end Go.Proofs.Ytgmhodmgbhpdaaa
