/- Lists of integers in memory, and the contracts of the laws' own helpers that compare, mark and look at them. -/
import Derived.Test.YtgmhodmgbhpdaadDraw1
import Derived.OwnWalk
import Derived.Deep.DeepMust
namespace Go.Proofs.Ytgmhodmgbhpdaad
open Go.ChangeShapes Go.WideShapes Go.ChangeAt Go.RowKit Go.Joins
set_option linter.unusedVariables false

def lenOf : Value → Nat | .slice _ n _ => n | _ => 0

/-- a slice's numbers -/
def Lst (w : World) (sa : Option Addr) (l : List Int) : Prop :=
  l = [] ∨ ∃ g off, sa = some ⟨g, off, none⟩ ∧ g < w.heap.size ∧ ∀ i, i < l.length → w.cell? ⟨g, off + i, none⟩ = some (.int .i64 (l.getD i 0))

theorem Lst.keep {w w' : World} {sa : Option Addr} {l : List Int} (h : Lst w sa l) (hb : Below w.heap.size w w') : Lst w' sa l := by
  rcases h with h | ⟨g, off, h1, h2, h3⟩
  · exact .inl h
  · exact .inr ⟨g, off, h1, Nat.lt_of_lt_of_le h2 hb.size, fun i hi => (hb.cell (p := ⟨g, off + i, none⟩) h2).trans (h3 i hi)⟩
theorem Lst.at {w : World} {sa : Option Addr} {l : List Int} (h : Lst w sa l) {k : Nat} (hk : k < l.length) : ∃ g off, sa = some ⟨g, off, none⟩ ∧ g < w.heap.size ∧ w.cell? ⟨g, off + k, none⟩ = some (.int .i64 (l.getD k 0)) := by
  rcases h with h | ⟨g, off, h1, h2, h3⟩
  · subst h; simp at hk
  · exact ⟨g, off, h1, h2, h3 k hk⟩

theorem take_eq_succ (a b : List Int) (k : Nat) (ha : k < a.length) (hb : k < b.length) (h : a.take k = b.take k) (e : a.getD k 0 = b.getD k 0) : a.take (k + 1) = b.take (k + 1) := by
  rw [List.take_succ_eq_append_getElem ha, List.take_succ_eq_append_getElem hb, h]
  rw [List.getD_eq_getElem?_getD, List.getD_eq_getElem?_getD, List.getElem?_eq_getElem ha, List.getElem?_eq_getElem hb] at e
  simp at e; rw [e]

def EqRet (b : Bool) (w : World) (e : Ending) (w' : World) : Prop := e = .returned (.bool b) ∧ Below w.heap.size w w'



set_option maxHeartbeats 1000000 in
theorem equalInts_any (sa sb : Option Addr) (a b : List Int) (ca cb : Nat) (w : World) (ha : Lst w sa a) (hb : Lst w sb b) (la : a.length ≤ 2000000) (lb : b.length ≤ 2000000) :
    Calls Try.prog 13 #[.slice sa a.length ca, .slice sb b.length cb] w (EqRet (decide (a = b)) w) := by
  by_cases hlen : a.length = b.length
  · have hne : ((a.length : Int) != b.length) = false := by simp [hlen]
    have Hl := hide hlen
    clear hlen
    have HA := hide ha
    have HB := hide hb
    clear ha hb
    go_enter Try.func13, Try.ntmps13
    go_wp2
    go_loopw [5] (fun i wr => ∃ k : Nat, k ≤ a.length ∧ i = .int .i64 k ∧ a.take k = b.take k ∧ Below w.heap.size w wr) (fun i _ => a.length - (intOf i).toNat)
    case atStart => exact ⟨0, Nat.zero_le _, rfl, rfl, Below.refl _ _⟩
    case round =>
      obtain ⟨k, hk, rfl, ht, hB⟩ := hrel
      have Ht := hide ht
      have HBe := hide hB
      clear ht hB
      by_cases hlt : k < a.length
      · have hlt2 : k < b.length := by have := Hl.out; omega
        obtain ⟨g, off, rfl, hg, c1⟩ := (HA.out.keep HBe.out).at hlt
        obtain ⟨g2, off2, rfl, hg2, c2⟩ := (HB.out.keep HBe.out).at hlt2
        have Hx := hide (take_eq_succ a b k hlt hlt2 Ht.out)
        by_cases he : a.getD k 0 = b.getD k 0
        · have HN := hide (Hx.out he)
          rw [← he] at c2
          clear Hx he
          obtain ⟨x, hx⟩ : ∃ x, x = a.getD k 0 := ⟨_, rfl⟩
          rw [← hx] at c1 c2
          clear hx
          go_wp2
          go_quiet (fail)
          go_wp2
          go_roundw
          case rel => exact ⟨k + 1, by omega, by go_num, HN.out, below_draw HBe.out⟩
          case measure => simp [intOf]; omega
        · obtain ⟨x, hx⟩ : ∃ x, x = a.getD k 0 := ⟨_, rfl⟩
          obtain ⟨y, hy⟩ : ∃ y, y = b.getD k 0 := ⟨_, rfl⟩
          rw [← hx] at c1 he
          rw [← hy] at c2 he
          have hd : ((x : Int) != y) = true := by rw [bne_iff_ne]; exact he
          have HF := hide (show decide (a = b) = false by
            apply decide_eq_false; intro h; rw [hx, hy, h] at he; exact he rfl)
          clear hx hy he Hx
          go_wp2
          go_quiet (fail)
          go_wp2
          go_ret
          exact ⟨ret_bool HF.out.symm, below_draw HBe.out⟩
      · have HF := hide (show decide (a = b) = true by
          apply decide_eq_true
          have := Ht.out
          rw [List.take_of_length_le (by omega), List.take_of_length_le (by have := Hl.out; omega)] at this
          exact this)
        go_wp2
        go_ret
        exact ⟨ret_bool HF.out.symm, HBe.out⟩
  · have hne : ((a.length : Int) != b.length) = true := by rw [bne_iff_ne]; omega
    have HF := hide (show decide (a = b) = false by apply decide_eq_false; intro h; rw [h] at hlen; exact hlen rfl)
    clear hlen ha hb
    go_enter Try.func13, Try.ntmps13
    go_wp2
    go_ret
    exact ⟨ret_bool HF.out.symm, Below.refl _ _⟩

/-- the numbers from m on -/
def marks (m : Int) (n : Nat) : List Int := (List.range n).map fun (j : Nat) => m + (j : Int)
theorem marks_len (m : Int) (n : Nat) : (marks m n).length = n := by simp [marks]
theorem marks_at (m : Int) (n j : Nat) (h : j < n) : (marks m n).getD j 0 = m + j := by
  simp [marks, List.getD_eq_getElem?_getD, h]

/-- a list that a call has made: it lies in memory from block 'base' on -/
def Row (base : Nat) (w : World) (sa : Option Addr) (cap : Nat) (l : List Int) : Prop := w.ownsRow base 3 1 (.slice sa l.length cap) l.length (l.map (Value.int .i64))

theorem Row.own {base : Nat} {w : World} {sa : Option Addr} {cap : Nat} {l : List Int} (h : Row base w sa cap l) : w.ownsRow base 3 1 (.slice sa l.length cap) l.length (l.map (Value.int .i64)) := h
theorem Row.form {base : Nat} {w : World} {sa : Option Addr} {cap : Nat} {l : List Int} (h : Row base w sa cap l) :
    l = [] ∨ ∃ g cur, sa = some ⟨g, 0, none⟩ ∧ base ≤ g ∧ w.heap[g]? = some (.cells cur 3 (0, 0)) ∧ ∀ i, i < l.length → cur[i]? = some (.int .i64 (l.getD i 0)) := by
  obtain ⟨h1, h2⟩ := h
  rcases h2 with ⟨h2, h3⟩ | ⟨g, c, cur, h2, h3, h4, h5, h6, h7, h8⟩
  · exact .inl (List.length_eq_zero_iff.1 h3)
  · simp only [Value.slice.injEq] at h2
    obtain ⟨rfl, _, rfl⟩ := h2
    refine .inr ⟨g, cur, rfl, h3, h4, fun i hi => ?_⟩
    have e : (cur.toList.take (l.length * 1))[i]? = (l.map (Value.int .i64))[i]? := by rw [h8]
    rw [List.getElem?_take_of_lt (by omega), List.getElem?_map, List.getElem?_eq_getElem hi] at e
    rw [List.getD_eq_getElem?_getD, List.getElem?_eq_getElem hi]
    simpa using e
theorem size_of_heap {w : World} {g : Nat} {o : Obj} (h : w.heap[g]? = some o) : g < w.heap.size := by
  by_cases hg : g < w.heap.size
  · exact hg
  · rw [Array.getElem?_eq_none (by omega)] at h; cases h
theorem Row.lst {base : Nat} {w : World} {sa : Option Addr} {cap : Nat} {l : List Int} (h : Row base w sa cap l) : Lst w sa l := by
  rcases h.form with h | ⟨g, cur, h1, h2, h3, h4⟩
  · exact .inl h
  · refine .inr ⟨g, 0, h1, size_of_heap h3, fun i hi => ?_⟩
    rw [cell_of_block h3]; simpa using h4 i hi

/-- what marking leaves -/
def MarkRet (base : Nat) (sa : Option Addr) (m : Int) (n : Nat) (w : World) (e : Ending) (w' : World) : Prop :=
  e = .returned (.int .i64 (m + n)) ∧ Lst w' sa (marks m n) ∧ Below base w w'



theorem Row.keep {base : Nat} {w w' : World} {sa : Option Addr} {cap : Nat} {l : List Int} (h : Row base w sa cap l) (hb : Below w.heap.size w w') : Row base w' sa cap l := by
  obtain ⟨h1, h2⟩ := h
  refine ⟨h1, ?_⟩
  rcases h2 with h2 | ⟨g, c, cur, h2, h3, h4, h5⟩
  · exact .inl h2
  · exact .inr ⟨g, c, cur, h2, h3, (hb.block g (size_of_heap h4)).trans h4, h5⟩
theorem Row.le {base base' : Nat} {w : World} {sa : Option Addr} {cap : Nat} {l : List Int} (h : Row base w sa cap l) (hb : base' ≤ base) : Row base' w sa cap l := ownsRow_le h hb
theorem Row.nil (base : Nat) (w : World) : Row base w none 0 [] := World.ownsRow_nil _ _ _ _
theorem Row.made (base : Nat) (w : World) (hb : base ≤ w.heap.size) : Row base (w.alloc (.cells #[] 3)) (some ⟨w.heap.size, 0, none⟩) 0 [] :=
  World.ownsRow_made w #[] 0 hb (by unfold maxLen; omega) (by simp)
theorem Row.madeAt (base g : Nat) (w : World) (hg : g = w.heap.size) (hb : base ≤ g) : Row base (w.alloc (.cells #[] 3)) (some ⟨g, 0, none⟩) 0 [] := by
  subst hg; exact Row.made base w hb
/-- what an append leaves, as a row -/
theorem Row.grown {base n : Nat} {w : World} {v : Value} {l : List Int} {x : Int} (h : w.ownsRow base 3 1 v n (l.map (Value.int .i64) ++ [.int .i64 x])) (hn : n = l.length + 1) :
    ∃ g cap, v = .slice (some ⟨g, 0, none⟩) (l.length + 1) cap ∧ Row base w (some ⟨g, 0, none⟩) cap (l ++ [x]) := by
  subst hn
  obtain ⟨g, cap, rfl⟩ := ownsRow_form h (by omega)
  refine ⟨g, cap, rfl, ?_⟩
  show w.ownsRow base 3 1 (.slice (some ⟨g, 0, none⟩) (l ++ [x]).length cap) (l ++ [x]).length ((l ++ [x]).map (Value.int .i64))
  rw [List.map_append, List.length_append]; exact h
theorem Try.infoInt : (Try.prog.info? 3).map (fun i => (i.zero, i.size, i.bytes)) = some (some (.int .i64 0), 1, 8) := by kernel_rfl

/-- what a call that makes a list answers -/
def RetList (l : List Int) (w : World) (e : Ending) (w' : World) : Prop :=
  ∃ sa cap, e = .returned (.slice sa l.length cap) ∧ Row w.heap.size w' sa cap l ∧ Below w.heap.size w w'
theorem RetList.of {l o : List Int} {w w' : World} {sa : Option Addr} {cap base : Nat} (h : l = o) (hr : Row (w.heap.size + base) w' sa cap o) (hb : Below w.heap.size w w') : RetList l w (.returned (.slice sa o.length cap)) w' := by
  subst h; exact ⟨sa, cap, rfl, hr.le (by omega), hb⟩
theorem one_news (w : World) (v : Value) (T : TypeId) : ∀ (j : Nat) (u : Value), [v][j]? = some u → (w.alloc (.cells #[v] T)).cell? ((⟨w.heap.size, 0, none⟩ : Addr).add j) = some u := by
  intro j u hj
  match j, hj with
  | 0, hj => simp at hj; subst hj; simp [Addr.add]

/-- an append of one number, which was laid in a block of its own just before, to a list of the call's own -/
theorem append_int {ops : Array Oper} {rest : List Oper} {o : Oper} {a : Act} {Q : Exit → Act → World → Prop} (hgd : o.guard = none) (s x : Operand)
    (ho : o.op = .call { callee := .builtin .append, args := #[s, x], argTypes := #[25, 25] }) (base : Nat) (w1 : World) (sa : Option Addr) (cap : Nat) (l : List Int) (v : Int) (T : TypeId)
    (hs : a.eval s = .slice sa l.length cap) (hx : a.eval x = .slice (some ⟨w1.heap.size, 0, none⟩) 1 1) (R : Row base w1 sa cap l) (hl : l.length ≤ 2000000) (hb : base ≤ w1.heap.size)
    (h : ∀ g cap' w', Row base w' (some ⟨g, 0, none⟩) cap' (l ++ [v]) → Below base w1 w' → wpList Try.prog ops Q rest (a.put o.dst (.slice (some ⟨g, 0, none⟩) (l.length + 1) cap')) w') :
    wpList Try.prog ops Q (o :: rest) a (w1.alloc (.cells #[.int .i64 v] T)) := by
  obtain ⟨i0, hi, hz0, hz1, hz2⟩ := info_parts Try.infoInt
  have hA : Below base w1 (w1.alloc (.cells #[.int .i64 v] T)) := (Below.refl _ _).alloc hb _
  refine wpList_append_own _ hgd s x 25 ho base 3 i0 (.int .i64 0) 1 8 Try.underlying25 hi hz0 hz1 hz2 rfl (by decide) _ _ _ hs (R.own.alloc _) ⟨w1.heap.size, 0, none⟩ 1 1 [.int .i64 v] hx rfl (one_news _ _ _) (by simp [Value.oneCell']) (by unfold maxLen; omega) (by omega) (by first | omega | (simp; done) | (simp; omega)) ?_
  intro v' w2 hown hgrow hnil
  obtain ⟨g, cap', rfl, hR⟩ := Row.grown hown rfl
  refine h g cap' w2 hR (hA.grown hgrow (by first | omega | (simp; done) | (simp; omega)) fun k hk => ?_)
  exact (World.ownsRow.lt R.own k hk).1
end Go.Proofs.Ytgmhodmgbhpdaad
