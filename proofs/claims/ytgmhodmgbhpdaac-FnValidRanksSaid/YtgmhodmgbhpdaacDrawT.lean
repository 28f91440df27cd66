/- The arguments that the laws on lists of choices draw. -/
import Derived.Test.YtgmhodmgbhpdaacDrawS
import Derived.Test.YtgmhodmgbhpdaacDraw2
namespace Go.Proofs.Ytgmhodmgbhpdaac
open Go.ChangeShapes Go.WideShapes Go.ChangeAt Go.RowKit Go.Joins
set_option linter.unusedVariables false

def RMOut (w : World) (e : Ending) (w' : World) : Prop :=
  ∃ (sa : Option Addr) (cap : Nat) (ll : List (List Int)) (hs : Heads), e = .returned (.slice sa ll.length cap) ∧ Mat w.heap.size w' sa cap ll hs ∧ 1 ≤ ll.length ∧ ll.length ≤ 8 ∧ (∀ i, i < ll.length → (ll.getD i []).length ≤ 6) ∧ Ext w w'
def RMIIOut (w : World) (e : Ending) (w' : World) : Prop :=
  ∃ (sa : Option Addr) (cap : Nat) (ll : List (List Int)) (hs : Heads) (i k : Int), e = .returned (.tuple #[.slice sa ll.length cap, .int .i64 i, .int .i64 k]) ∧ Mat w.heap.size w' sa cap ll hs ∧ 1 ≤ ll.length ∧ ll.length ≤ 8 ∧ (∀ i, i < ll.length → (ll.getD i []).length ≤ 6) ∧ -1 ≤ i ∧ i ≤ 6 ∧ -1 ≤ k ∧ k ≤ 6 ∧ Ext w w'

set_option maxHeartbeats 400000 in
theorem dDrawValidRanks (sa : Option Addr) (len cap : Nat) (w : World) (h : Code w sa len cap) (hl : len ≤ maxLen) :
    Calls Try.prog 48 #[.slice sa len cap] w (RMOut w) := by
  go_enter Try.func48, Try.ntmps48
  go_wp2_with fail
  refine (newReader_any _ _ _ _ h hl).mono ?_
  rintro e w1 ⟨rfl, hr1, hb1, hs1⟩
  have hE1 : Ext w w1 := Ext.of hb1
  have hz1 : w.heap.size ≤ w1.heap.size := hE1.size
  clear hb1 hs1 h
  go_wp2_with fail
  refine (anyRanks_any _ _ 0 _ hr1 (by omega)).mono ?_
  rintro e w2 ⟨sb, cb, ll, hs, M, rfl, hM2, l1, l2, m0, m1, hrl, hm0, ⟨q, hq, hr2⟩, hb2⟩
  have HRL := hide (show ∀ i, i < ll.length → (ll.getD i []).length ≤ 6 from fun i hi => Nat.le_trans (hrl i hi) m1)
  have hgl := hr1.lt
  have hB2 := (But.of_below (g := w.heap.size) hE1).trans hb2
  clear hr1 hb2 hrl hm0
  have EE := Ext.of (hB2.to_below (B := w.heap.size) (Nat.le_refl _) (Nat.le_refl _))
  go_wp2
  go_ret
  exact ⟨sb, cb, ll, hs, rfl, hM2.le hz1, l1, l2, HRL.out, EE⟩




end Go.Proofs.Ytgmhodmgbhpdaac
