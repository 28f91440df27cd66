/- Bodies: what the exact laws' helpers do with them. -/
import Derived.Test.YtjdfdikifiljjabArr
namespace Go.Proofs.Ytjdfdikifiljjab
open Go.ChangeShapes Go.WideShapes Go.ChangeAt Go.RowKit Go.Joins Go.Sort
set_option linter.unusedVariables false

/-- what is left of a size -/
def szf (n : Nat) (left : Int) : Int := if (n : Int) ≤ left then left - n else -1
theorem szf_yes {n : Nat} {left : Int} (h : (n : Int) ≤ left) : szf n left = left - n := if_pos h
theorem szf_no {n : Nat} {left : Int} (h : ¬ (n : Int) ≤ left) : szf n left = -1 := if_neg h

theorem szIntS_any (sa : Option Addr) (cap n : Nat) (left : Int) (w : World) (hn : n ≤ maxLen) (h0 : 0 ≤ left) (h1 : left ≤ 2000000) :
    Calls Try.prog 60 #[.slice sa n cap, .int .i64 left] w (Same (.int .i64 (szf n left)) w) := by
  unfold maxLen at hn
  by_cases h : (n : Int) ≤ left
  · have H := hide (szf_yes h)
    go_enter Try.func60, Try.ntmps60
    go_wp2
    go_ret
    exact Same.int (by rw [H.out])
  · have H := hide (szf_no h)
    go_enter Try.func60, Try.ntmps60
    go_wp2
    go_ret
    exact Same.int (by rw [H.out])
theorem szBody_any (sa : Option Addr) (cap n : Nat) (need left : Int) (w : World) (hn : n ≤ maxLen) (h0 : 0 ≤ left) (h1 : left ≤ 2000000) :
    Calls Try.prog 17 #[.agg #[.slice sa n cap, .int .i64 need], .int .i64 left] w (Ret (.int .i64 (szf n left)) w) := by
  have hn' := hn
  unfold maxLen at hn'
  by_cases h : (n : Int) ≤ left
  · have H := hide (szf_yes h)
    go_enter Try.func17, Try.ntmps17
    go_wp2_with fail; refine (szIntS_any _ _ _ _ _ hn h0 h1).mono ?_; rintro e w' ⟨rfl, rfl⟩
    rw [H.out]
    go_wp2
    go_ret
    exact Ret.int H.out.symm ((Ext.refl _).alloc _)
  · have H := hide (szf_no h)
    go_enter Try.func17, Try.ntmps17
    go_wp2_with fail; refine (szIntS_any _ _ _ _ _ hn h0 h1).mono ?_; rintro e w' ⟨rfl, rfl⟩
    rw [H.out]
    go_wp2
    go_ret
    exact Ret.int H.out.symm ((Ext.refl _).alloc _)

/-- what a call that makes a body answers -/
def RetBody (l : List Int) (need : Int) (w : World) (e : Ending) (w' : World) : Prop :=
  ∃ sa cap, e = .returned (.agg #[.slice sa l.length cap, .int .i64 need]) ∧ Row w.heap.size w' sa cap l ∧ Ext w w'

set_option maxHeartbeats 400000 in
theorem toBody_any (sa : Option Addr) (cap : Nat) (l : List Int) (need : Int) (w : World) (h : Lst w sa l) (hl : l.length ≤ 2000000) :
    Calls Try.prog 19 #[.agg #[.slice sa l.length cap, .int .i64 need]] w (RetBody l need w) := by
  have H := hide h
  clear h
  go_enter Try.func19, Try.ntmps19
  go_wp2_with fail; refine (toIntS_any sa cap l _ (H.out.ext ((((Ext.refl w).alloc _).alloc _).alloc _)) hl).mono ?_; rintro e w1 ⟨sa1, cap1, rfl, hr, hb⟩
  have E1 := Ext.of hb
  have x1 := (((Box.new w _ _).push _).push _).keep E1
  have x2 := ((Box.newAt _ (w.heap.size + 1) _ _ (by simp)).push _).keep E1
  have x3 := (Box.newAt _ (w.heap.size + 1 + 1) _ _ (by simp)).keep E1
  obtain ⟨a0, a1, _, _⟩ := x1.two
  obtain ⟨b0, b1, b2, b3⟩ := x2.two
  obtain ⟨c0, c1, c2, c3⟩ := x3.two
  have E2 := (((((Ext.refl w).alloc _).alloc _).alloc _).trans E1)
  clear hb E1 x1 x2 x3
  have R := hr.le (base' := w.heap.size + 3) (by simp)
  clear hr
  go_wp2
  refine bodyPost_ret (v := .agg #[.slice sa1 l.length cap1, .int .i64 need]) (by simp [results, Try.results19, go_sem, b0, b1]) rfl ⟨sa1, cap1, rfl, ?_, ?_⟩
  · exact ((((R.put (by omega) _ _).put (by omega) _ _).put (by omega) _ _).put (by omega) _ _).le (by omega)
  · exact (((E2.setCell (by omega) _).setCell (by omega) _).setCell (by omega) _).setCell (by omega) _

set_option maxHeartbeats 400000 in
theorem eqBody_same (sa sb : Option Addr) (ca cb : Nat) (l : List Int) (need : Int) (w : World) (ha : Lst w sa l) (hb : Lst w sb l) (hl : l.length ≤ 2000000) :
    Calls Try.prog 22 #[.agg #[.slice sa l.length ca, .int .i64 need], .agg #[.slice sb l.length cb, .int .i64 need]] w (Ret (.bool true) w) := by
  have HA := hide ha; clear ha
  have HB := hide hb; clear hb
  have hne : ((need : Int) != need) = false := by simp
  go_enter Try.func22, Try.ntmps22
  go_wp2_with fail; refine (eqIntS_same sa sb l ca cb _ (HA.out.ext (((Ext.refl w).alloc _).alloc _)) (HB.out.ext (((Ext.refl w).alloc _).alloc _)) hl).mono ?_; rintro e w1 ⟨rfl, hb⟩
  have E1 := Ext.of hb
  have x1 := ((Box.new w _ _).push _).keep E1
  have x2 := (Box.newAt _ (w.heap.size + 1) _ _ (by simp)).keep E1
  obtain ⟨_, a1, _, _⟩ := x1.two
  obtain ⟨_, b1, _, _⟩ := x2.two
  have E2 := ((((Ext.refl w).alloc _).alloc _).trans E1)
  clear hb E1 x1 x2
  go_wp2
  go_ret
  exact Ret.bool rfl E2
theorem markBody_mid (lo hi : Nat) (sa : Option Addr) (cap : Nat) (l : List Int) (need m : Int) (w : World) (h : Row lo w sa cap l) (hh : ∀ g off, sa = some ⟨g, off, none⟩ → g < hi) (hhi : hi ≤ w.heap.size) (hl : l.length ≤ 2000000) (hm0 : 0 ≤ m) (hm : m ≤ 2000000) :
    Calls Try.prog 23 #[.agg #[.slice sa l.length cap, .int .i64 need], .int .i64 m] w (MarkMid lo hi sa m l.length w) := by
  have H := hide h; clear h
  have HH := hide hh; clear hh
  go_enter Try.func23, Try.ntmps23
  go_wp2_with fail; refine (markIntS_mid lo hi sa cap l m _ (H.out.ext ((Ext.refl w).alloc _)) HH.out hl hm0 hm).mono ?_; rintro e w1 ⟨rfl, hm, hb1⟩
  have B1 := (Mid.of_ext ((Ext.refl w).alloc _)).trans hb1
  clear hb1
  go_wp2
  go_ret
  exact ⟨rfl, hm, B1⟩
end Go.Proofs.Ytjdfdikifiljjab
