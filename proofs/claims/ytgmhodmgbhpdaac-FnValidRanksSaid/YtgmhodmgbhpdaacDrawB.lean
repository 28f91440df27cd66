/- The generator's bodies, members and ballots: contracts over the reader. -/
import Derived.Test.YtgmhodmgbhpdaacDraw2
import Derived.Test.YtgmhodmgbhpdaacApp
import Derived.Test.YtgmhodmgbhpdaacBody1
import Derived.Deep.RegionHeld3
namespace Go.Proofs.Ytgmhodmgbhpdaac
open Go.ChangeShapes Go.WideShapes Go.ChangeAt Go.RowKit Go.Joins
set_option linter.unusedVariables false

theorem Rdr.drew {B g p : Nat} {w : World} (h : Rdr B w g p) : Rdr B w.drew g p := h.keep (Below.refl _ w).drew
theorem Rdr.alloc {B g p : Nat} {w : World} (h : Rdr B w g p) (o : Obj) : Rdr B (w.alloc o) g p := h.keep ((Below.refl _ w).alloc (Nat.le_refl _) o)
theorem Rdr.lt {B g p : Nat} {w : World} (h : Rdr B w g p) : g < w.heap.size := h.2.1
theorem Rdr.low {B g p : Nat} {w : World} (h : Rdr B w g p) : B ≤ g := h.1
theorem But.drew {g : Nat} {a w : World} (h : But g a w) : But g a w.drew := h.trans (But.of_below (Below.refl _ w).drew)
theorem But.alloc {g : Nat} {a w : World} (h : But g a w) (o : Obj) : But g a (w.alloc o) := h.trans (But.of_below ((Below.refl _ w).alloc (Nat.le_refl _) o))
theorem But.ext {g : Nat} {a w w' : World} (h : But g a w) (e : Ext w w') : But g a w' := h.trans (But.of_below e)
theorem But.below {g n : Nat} {a b c : World} (h : But g a b) (k : Below n b c) (hn : a.heap.size ≤ n) : But g a c :=
  ⟨k.os.trans h.os, k.tape.trans h.tape, k.output.trans h.output, Nat.le_trans h.size k.size, fun j hj hg => (k.block j (by omega)).trans (h.block j hj hg)⟩
theorem Rdr.below {B g p n : Nat} {w w' : World} (h : Rdr B w g p) (k : Below n w w') (hn : g < n) : Rdr B w' g p := by
  obtain ⟨h1, h2, h3, h4, sa, len, cap, h5, h6⟩ := h
  refine ⟨h1, by have := k.size; omega, (k.frozen (p := ⟨g, 1, none⟩) hn).trans h3, (k.cell (p := ⟨g, 1, none⟩) hn).trans h4, sa, len, cap, (k.cell (p := ⟨g, 0, none⟩) hn).trans h5, ?_⟩
  rcases h6 with h | ⟨b, off, e1, e2, e3, e4⟩
  · exact .inl h
  · refine .inr ⟨b, off, e1, e2, e3, fun i hi => ?_⟩
    obtain ⟨z, hz, hz'⟩ := e4 i hi
    exact ⟨z, (k.cell (p := ⟨b, off + i, none⟩) (show b < n by omega)).trans hz, hz'⟩
theorem Box.but {g k : Nat} {a b : World} {cs : Array Value} {T : TypeId} (h : Box a k cs T) (e : But g a b) (hg : k ≠ g) : Box b k cs T := (e.block k h.lt hg).trans h
theorem Row.but {base g : Nat} {a b : World} {sa : Option Addr} {cap : Nat} {l : List Int} (h : Row base a sa cap l) (e : But g a b) (hg : g < base) : Row base b sa cap l := by
  obtain ⟨h1, h2⟩ := h
  refine ⟨h1, ?_⟩
  rcases h2 with h2 | ⟨x, c, cur, h2, h3, h4, h5⟩
  · exact .inl h2
  · exact .inr ⟨x, c, cur, h2, h3, (e.block x (size_of_heap h4) (by omega)).trans h4, h5⟩
/-- a store into a list of the call's own -/
theorem Row.store {base : Nat} {w : World} {b cap : Nat} {l : List Int} (h : Row base w (some ⟨b, 0, none⟩) cap l) (i : Nat) (x : Int) : Row base (w.setCell ⟨b, i, none⟩ (.int .i64 x)) (some ⟨b, 0, none⟩) cap (l.set i x) := by
  obtain ⟨h1, h2⟩ := h
  rcases h2 with ⟨h2, _⟩ | ⟨g, c, cur, h2, h3, h4, h5, h6, h7, h8⟩
  · cases h2
  · simp only [Value.slice.injEq, Option.some.injEq, Addr.mk.injEq] at h2
    obtain ⟨⟨rfl, _⟩, _, rfl⟩ := h2
    refine ⟨by simp, .inr ⟨b, cap, cur.setIfInBounds i (.int .i64 x), by rw [List.length_set], h3, ?_, by rw [List.length_set]; exact h5, h6, by simpa using h7, ?_⟩⟩
    · simp [World.setCell, Array.getElem?_modify, h4]
    · rw [List.length_set, List.map_set, ← h8, Array.toList_setIfInBounds, List.take_set]
theorem Row.spot {base : Nat} {w : World} {sa : Option Addr} {cap : Nat} {l : List Int} (h : Row base w sa cap l) (h0 : 0 < l.length) : ∃ b, sa = some ⟨b, 0, none⟩ ∧ base ≤ b ∧ b < w.heap.size ∧ (∀ i, w.frozen? ⟨b, i, none⟩ = false) ∧ ∀ i, i < l.length → w.cell? ⟨b, i, none⟩ = some (.int .i64 (l.getD i 0)) := by
  obtain ⟨h1, h2⟩ := h
  rcases h2 with ⟨_, h3⟩ | ⟨g, c, cur, h2, h3, h4, h5, h6, h7, h8⟩
  · omega
  · simp only [Value.slice.injEq] at h2
    obtain ⟨rfl, _, rfl⟩ := h2
    refine ⟨g, rfl, h3, size_of_heap h4, fun i => unfrozen_of_block h4 i, fun i hi => ?_⟩
    rw [cell_of_block h4 i]
    have e : (cur.toList.take (l.length * 1))[i]? = (l.map (Value.int .i64))[i]? := by rw [h8]
    rw [List.getElem?_take_of_lt (by omega), List.getElem?_map, List.getElem?_eq_getElem hi] at e
    rw [← Array.getElem?_toList, e, List.getD_eq_getElem?_getD, List.getElem?_eq_getElem hi]; rfl
theorem one_at (B g p : Nat) (zs : List Int) (lo hi : Int) (T : TypeId) (k n : Nat) (w : World) (hk : k = w.heap.size) (hn : zs.length = n) (h : Rdr B w g p) (hp : p < 1000000) (h0 : 0 < zs.length) (hm : zs.length ≤ 1000000) (hz : ∀ z ∈ zs, lo ≤ z ∧ z ≤ hi) :
    Calls Try.prog 78 #[.pointer (some ⟨g, 0, none⟩), .slice (some ⟨k, 0, none⟩) n n] (w.alloc (.cells (zs.map (Value.int .i64)).toArray T)) (OneRes B g p lo hi (w.alloc (.cells (zs.map (Value.int .i64)).toArray T))) := by
  subst hk hn; exact one_new B g p zs lo hi T w h hp h0 hm hz

/-- a body that was drawn -/
def BodyOut (B g p k : Nat) (lo hi : Int) (w : World) (e : Ending) (w' : World) : Prop :=
  ∃ (sa : Option Addr) (cap : Nat) (l : List Int) (need : Int), e = .returned (.agg #[.slice sa l.length cap, .int .i64 need]) ∧ Row w.heap.size w' sa cap l ∧ 1 ≤ l.length ∧ l.length ≤ 9 ∧ (∀ x ∈ l, lo ≤ x ∧ x ≤ hi) ∧ -100000 ≤ need ∧ need ≤ 100000 ∧ (∃ q, q ≤ p + k ∧ Rdr B w' g q) ∧ But g w w'

theorem len_snoc'' (o : List Int) (x : Int) : o.length + 1 = (o ++ [x]).length := by simp

end Go.Proofs.Ytgmhodmgbhpdaac
