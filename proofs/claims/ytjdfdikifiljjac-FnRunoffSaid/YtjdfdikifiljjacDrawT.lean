/- The arguments that the laws on lists of choices draw. -/
import Derived.Test.YtjdfdikifiljjacDrawS
import Derived.Test.YtjdfdikifiljjacDraw2
namespace Go.Proofs.Ytjdfdikifiljjac
open Go.ChangeShapes Go.WideShapes Go.ChangeAt Go.RowKit Go.Joins
set_option linter.unusedVariables false

def RMOut (w : World) (e : Ending) (w' : World) : Prop :=
  ∃ (sa : Option Addr) (cap : Nat) (ll : List (List Int)) (hs : Heads), e = .returned (.slice sa ll.length cap) ∧ Mat w.heap.size w' sa cap ll hs ∧ 1 ≤ ll.length ∧ ll.length ≤ 8 ∧ (∀ i, i < ll.length → (ll.getD i []).length ≤ 6) ∧ Ext w w'
def RMIIOut (w : World) (e : Ending) (w' : World) : Prop :=
  ∃ (sa : Option Addr) (cap : Nat) (ll : List (List Int)) (hs : Heads) (i k : Int), e = .returned (.tuple #[.slice sa ll.length cap, .int .i64 i, .int .i64 k]) ∧ Mat w.heap.size w' sa cap ll hs ∧ 1 ≤ ll.length ∧ ll.length ≤ 8 ∧ (∀ i, i < ll.length → (ll.getD i []).length ≤ 6) ∧ -1 ≤ i ∧ i ≤ 6 ∧ -1 ≤ k ∧ k ≤ 6 ∧ Ext w w'

set_option maxHeartbeats 400000 in
theorem dDrawValidRanks (sa : Option Addr) (len cap : Nat) (w : World) (h : Code w sa len cap) (hl : len ≤ maxLen) :
    Calls Try.prog 34 #[.slice sa len cap] w (RMOut w) := by
  go_enter Try.func34, Try.ntmps34
  go_wp2_with fail
  refine (newReader_any _ _ _ _ h hl).mono ?_
  rintro e w1 ⟨rfl, hr1, hb1, hs1⟩
  have hE1 : Ext w w1 := Ext.of hb1
  have hz1 : w.heap.size ≤ w1.heap.size := hE1.size
  clear hb1 hs1 h
  go_wp2_with fail
  refine (anyRanks_any _ _ 0 _ hr1 (by omega)).mono ?_
  rintro e w2 ⟨sb, cb, ll, hs, M, rfl, hM2, l1, l2, m0, m1, hrl, hm0, ⟨q, hq, hr2⟩, hb2⟩
  have HRL := hide (show ∀ i, i < ll.length → (ll.getD i []).length ≤ 6 from fun i hi => Nat.le_trans (hrl i hi) m1)
  have hgl := hr1.lt
  have hB2 := (But.of_below (g := w.heap.size) hE1).trans hb2
  clear hr1 hb2 hrl hm0
  have EE := Ext.of (hB2.to_below (B := w.heap.size) (Nat.le_refl _) (Nat.le_refl _))
  go_wp2
  go_ret
  exact ⟨sb, cb, ll, hs, rfl, hM2.le hz1, l1, l2, HRL.out, EE⟩

set_option maxHeartbeats 400000 in
theorem dDrawBeatsAll (sa : Option Addr) (len cap : Nat) (w : World) (h : Code w sa len cap) (hl : len ≤ maxLen) :
    Calls Try.prog 37 #[.slice sa len cap] w (RMOut w) := by
  go_enter Try.func37, Try.ntmps37
  go_wp2_with fail
  refine (newReader_any _ _ _ _ h hl).mono ?_
  rintro e w1 ⟨rfl, hr1, hb1, hs1⟩
  have hE1 : Ext w w1 := Ext.of hb1
  have hz1 : w.heap.size ≤ w1.heap.size := hE1.size
  clear hb1 hs1 h
  go_wp2_with fail
  refine (anyRanks_any _ _ 0 _ hr1 (by omega)).mono ?_
  rintro e w2 ⟨sb, cb, ll, hs, M, rfl, hM2, l1, l2, m0, m1, hrl, hm0, ⟨q, hq, hr2⟩, hb2⟩
  have HRL := hide (show ∀ i, i < ll.length → (ll.getD i []).length ≤ 6 from fun i hi => Nat.le_trans (hrl i hi) m1)
  have hgl := hr1.lt
  have hB2 := (But.of_below (g := w.heap.size) hE1).trans hb2
  clear hr1 hb2 hrl hm0
  have EE := Ext.of (hB2.to_below (B := w.heap.size) (Nat.le_refl _) (Nat.le_refl _))
  go_wp2
  go_ret
  exact ⟨sb, cb, ll, hs, rfl, hM2.le hz1, l1, l2, HRL.out, EE⟩

set_option maxHeartbeats 400000 in
theorem dDrawPointsOf (sa : Option Addr) (len cap : Nat) (w : World) (h : Code w sa len cap) (hl : len ≤ maxLen) :
    Calls Try.prog 38 #[.slice sa len cap] w (RMOut w) := by
  go_enter Try.func38, Try.ntmps38
  go_wp2_with fail
  refine (newReader_any _ _ _ _ h hl).mono ?_
  rintro e w1 ⟨rfl, hr1, hb1, hs1⟩
  have hE1 : Ext w w1 := Ext.of hb1
  have hz1 : w.heap.size ≤ w1.heap.size := hE1.size
  clear hb1 hs1 h
  go_wp2_with fail
  refine (anyRanks_any _ _ 0 _ hr1 (by omega)).mono ?_
  rintro e w2 ⟨sb, cb, ll, hs, M, rfl, hM2, l1, l2, m0, m1, hrl, hm0, ⟨q, hq, hr2⟩, hb2⟩
  have HRL := hide (show ∀ i, i < ll.length → (ll.getD i []).length ≤ 6 from fun i hi => Nat.le_trans (hrl i hi) m1)
  have hgl := hr1.lt
  have hB2 := (But.of_below (g := w.heap.size) hE1).trans hb2
  clear hr1 hb2 hrl hm0
  have EE := Ext.of (hB2.to_below (B := w.heap.size) (Nat.le_refl _) (Nat.le_refl _))
  go_wp2
  go_ret
  exact ⟨sb, cb, ll, hs, rfl, hM2.le hz1, l1, l2, HRL.out, EE⟩

set_option maxHeartbeats 400000 in
theorem dDrawRunoff (sa : Option Addr) (len cap : Nat) (w : World) (h : Code w sa len cap) (hl : len ≤ maxLen) :
    Calls Try.prog 41 #[.slice sa len cap] w (RMOut w) := by
  go_enter Try.func41, Try.ntmps41
  go_wp2_with fail
  refine (newReader_any _ _ _ _ h hl).mono ?_
  rintro e w1 ⟨rfl, hr1, hb1, hs1⟩
  have hE1 : Ext w w1 := Ext.of hb1
  have hz1 : w.heap.size ≤ w1.heap.size := hE1.size
  clear hb1 hs1 h
  go_wp2_with fail
  refine (anyRanks_any _ _ 0 _ hr1 (by omega)).mono ?_
  rintro e w2 ⟨sb, cb, ll, hs, M, rfl, hM2, l1, l2, m0, m1, hrl, hm0, ⟨q, hq, hr2⟩, hb2⟩
  have HRL := hide (show ∀ i, i < ll.length → (ll.getD i []).length ≤ 6 from fun i hi => Nat.le_trans (hrl i hi) m1)
  have hgl := hr1.lt
  have hB2 := (But.of_below (g := w.heap.size) hE1).trans hb2
  clear hr1 hb2 hrl hm0
  have EE := Ext.of (hB2.to_below (B := w.heap.size) (Nat.le_refl _) (Nat.le_refl _))
  go_wp2
  go_ret
  exact ⟨sb, cb, ll, hs, rfl, hM2.le hz1, l1, l2, HRL.out, EE⟩

set_option maxHeartbeats 400000 in
theorem dDrawPrefer (sa : Option Addr) (len cap : Nat) (w : World) (h : Code w sa len cap) (hl : len ≤ maxLen) :
    Calls Try.prog 36 #[.slice sa len cap] w (RMIIOut w) := by
  go_enter Try.func36, Try.ntmps36
  go_wp2_with fail
  refine (newReader_any _ _ _ _ h hl).mono ?_
  rintro e w1 ⟨rfl, hr1, hb1, hs1⟩
  have hE1 : Ext w w1 := Ext.of hb1
  have hz1 : w.heap.size ≤ w1.heap.size := hE1.size
  clear hb1 hs1 h
  go_wp2_with fail
  refine (anyRanks_any _ _ 0 _ hr1 (by omega)).mono ?_
  rintro e w2 ⟨sb, cb, ll, hs, M, rfl, hM2, l1, l2, m0, m1, hrl, hm0, ⟨q, hq, hr2⟩, hb2⟩
  have HRL := hide (show ∀ i, i < ll.length → (ll.getD i []).length ≤ 6 from fun i hi => Nat.le_trans (hrl i hi) m1)
  have hgl := hr1.lt
  have hB2 := (But.of_below (g := w.heap.size) hE1).trans hb2
  clear hr1 hb2 hrl hm0
  go_wp2_with fail
  refine (one_at _ _ q [0, 1, 2, -1] (-1) 6 _ _ _ _ rfl rfl hr2 (by omega) (by simp) (by simp) (by simp)).mono ?_
  rintro e w3 ⟨i, rfl, i0, i1, hr3, hb3, hs3⟩
  have hM3 := (hM2.ext ((Ext.refl _).alloc _)).but hb3 hgl
  have hB3 := (hB2.alloc _).trans hb3
  clear hs3 hb3
  go_wp2_with fail
  refine (one_at _ _ (q + 1) [1, 0, 2, 3, 6] (-1) 6 _ _ _ _ rfl rfl hr3 (by omega) (by simp) (by simp) (by simp)).mono ?_
  rintro e w4 ⟨k, rfl, k0, k1, hr4, hb4, hs4⟩
  have hM4 := (hM3.ext ((Ext.refl _).alloc _)).but hb4 hgl
  have hB4 := (hB3.alloc _).trans hb4
  clear hs4 hb4
  have EE := Ext.of (hB4.to_below (B := w.heap.size) (Nat.le_refl _) (Nat.le_refl _))
  go_wp2
  refine bodyPost_ret (v := .tuple #[.slice sb ll.length cb, .int .i64 i, .int .i64 k]) (by simp [results, Try.results36, go_sem]) rfl ?_
  exact ⟨sb, cb, ll, hs, i, k, rfl, hM4.le hz1, l1, l2, HRL.out, i0, i1, k0, k1, EE⟩
end Go.Proofs.Ytjdfdikifiljjac
