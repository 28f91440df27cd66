/- Lists that are made at their full length, and bodies: what the exact laws' helpers do. -/
import Derived.Test.YtgmhodmgbhpdaacExt
import Derived.Laws.MakeOwn
import Derived.Laws.CopyOwn
namespace Go.Proofs.Ytgmhodmgbhpdaac
open Go.ChangeShapes Go.WideShapes Go.ChangeAt Go.RowKit Go.Joins Go.Sort
set_option linter.unusedVariables false

def ints (l : List Int) : Array Value := (l.map (Value.int .i64)).toArray
def zeros (n : Nat) : List Int := List.replicate n 0
theorem zeros_len (n : Nat) : (zeros n).length = n := List.length_replicate
theorem zeros_at (n j : Nat) : (zeros n).getD j 0 = 0 := by
  unfold zeros; rw [List.getD_eq_getElem?_getD, List.getElem?_replicate]; split <;> rfl
/-- a block that holds a list of integers, whole -/
def Arr (w : World) (g : Nat) (l : List Int) : Prop := Box w g (ints l) 3
theorem Arr.lt {w : World} {g : Nat} {l : List Int} (h : Arr w g l) : g < w.heap.size := Box.lt h
theorem Arr.keep {w w' : World} {g : Nat} {l : List Int} (h : Arr w g l) (e : Ext w w') : Arr w' g l := Box.keep h e
theorem Arr.free {w : World} {g : Nat} {l : List Int} (h : Arr w g l) (j : Nat) : w.frozen? ⟨g, j, none⟩ = false := unfrozen_of_block h j
theorem Arr.cell {w : World} {g : Nat} {l : List Int} (h : Arr w g l) {j : Nat} (hj : j < l.length) : w.cell? ⟨g, j, none⟩ = some (.int .i64 (l.getD j 0)) := by
  rw [cell_of_block h j]; simp [ints, hj, List.getD_eq_getElem?_getD]
theorem Arr.lst {w : World} {g : Nat} {l : List Int} (h : Arr w g l) : Lst w (some ⟨g, 0, none⟩) l :=
  .inr ⟨g, 0, rfl, h.lt, fun i hi => by rw [Nat.zero_add]; exact h.cell hi⟩
theorem Arr.row {w : World} {g base : Nat} {l : List Int} (h : Arr w g l) (hb : base ≤ g) (hl : l.length ≤ 2000000) : Row base w (some ⟨g, 0, none⟩) l.length l :=
  ⟨by simp, .inr ⟨g, l.length, _, rfl, hb, h, Nat.le_refl _, by unfold maxLen; omega, by simp [ints], by simp [ints, List.take_of_length_le]⟩⟩
theorem Arr.set {w : World} {g : Nat} {l : List Int} (h : Arr w g l) (j : Nat) (x : Int) : Arr (w.setCell ⟨g, j, none⟩ (.int .i64 x)) g (l.set j x) := by
  have := Box.set h j (.int .i64 x)
  unfold Arr ints
  rw [List.map_set]
  simpa [ints] using this
theorem made_ints (n : Nat) : madeCells (Value.int .i64 0).cells (n * 1) = ints (zeros n) := by
  apply Array.ext
  · simp [madeCells, ints, zeros]
  · intro i h1 h2
    simp [madeCells, Value.cells, ints, zeros, Nat.mod_one]
theorem run_makeInts (n : Nat) (hn : n ≤ 2000000) (w : World) : (Instr.makeSlice 22 (.int .i64 (n : Int)) (.int .i64 (n : Int))).run Try.prog w =
    .ok (.slice (some ⟨w.heap.size, 0, none⟩) n n) (w.alloc (.cells (ints (zeros n)) 3)) := by
  obtain ⟨i0, hi, hz0, hz1, hz2⟩ := info_parts Try.infoInt
  have hr := run_make (P := Try.prog) w 22 3 i0 _ Try.underlying22 hi hz0 .i64 .i64 n n (by omega) (Int.le_refl _) (by rw [hz2]; omega) (by omega)
  rw [hz1, Int.toNat_natCast, made_ints] at hr
  exact hr
theorem Arr.new (w : World) (l : List Int) : Arr (w.alloc (.cells (ints l) 3)) w.heap.size l := Box.new _ _ _
theorem Arr.newAt (w : World) (k : Nat) (l : List Int) (hk : k = w.heap.size) : Arr (w.alloc (.cells (ints l) 3)) k l := by subst hk; exact Box.new _ _ _
theorem Arr.drew {w : World} {g : Nat} {l : List Int} (h : Arr w g l) : Arr w.drew g l := h.keep (Ext.refl w).drew
theorem set_getD (l : List Int) (j i : Nat) (x : Int) (hj : j < l.length) : (l.set j x).getD i 0 = if i = j then x else l.getD i 0 := by
  rw [List.getD_eq_getElem?_getD, List.getD_eq_getElem?_getD, List.getElem?_set]
  by_cases e : j = i
  · subst e; simp [hj]
  · rw [if_neg e, if_neg (Ne.symm e)]
theorem ext_getD {a b : List Int} (hl : a.length = b.length) (h : ∀ j, j < a.length → a.getD j 0 = b.getD j 0) : a = b := by
  apply List.ext_getElem hl
  intro i h1 h2
  have := h i h1
  rw [List.getD_eq_getElem?_getD, List.getD_eq_getElem?_getD, List.getElem?_eq_getElem h1, List.getElem?_eq_getElem h2] at this
  simpa using this

set_option maxHeartbeats 1000000 in
theorem toIntS_any (sa : Option Addr) (cap : Nat) (l : List Int) (w : World) (h : Lst w sa l) (hl : l.length ≤ 2000000) :
    Calls Try.prog 22 #[.slice sa l.length cap] w (RetList l w) := by
  have H := hide h
  clear h
  have hmk := run_makeInts l.length hl
  go_enter Try.func22, Try.ntmps22
  go_wp2
  clear hmk
  go_loopw [4] (fun i wr => ∃ (k : Nat) (m : List Int), k ≤ l.length ∧ i = .int .i64 k ∧ m.length = l.length ∧ (∀ j, j < k → m.getD j 0 = l.getD j 0) ∧ Arr wr w.heap.size m ∧ Ext w wr) (fun i _ => l.length - (intOf i).toNat)
  case atStart => exact ⟨0, _, Nat.zero_le _, rfl, zeros_len _, by omega, Arr.new w _, (Ext.refl w).alloc _⟩
  case round =>
    obtain ⟨k, m, hk, rfl, hm, hj, hA, hE⟩ := hrel
    have HJ := hide hj; clear hj
    have HM := hide hm; clear hm
    by_cases hlt : k < l.length
    · obtain ⟨g, off, rfl, hg, c1⟩ := (H.out.ext hE).at hlt
      have c2 := hA.cell (j := k) (by rw [HM.out]; exact hlt)
      have f2 := hA.free k
      obtain ⟨x, hx⟩ : ∃ x, x = l.getD k 0 := ⟨_, rfl⟩; rw [← hx] at c1
      obtain ⟨y, hy⟩ : ∃ y, y = m.getD k 0 := ⟨_, rfl⟩; rw [← hy] at c2
      have HX := hide hx; clear hx
      clear hy
      go_wp2
      go_roundw
      case rel =>
        refine ⟨k + 1, m.set k x, by omega, by go_num, by rw [List.length_set, HM.out], fun j hj => ?_, hA.set k x, hE.setCell (Nat.le_refl _) _⟩
        rw [set_getD _ _ _ _ (by rw [HM.out]; exact hlt)]
        split
        · rename_i e; rw [e, HX.out]
        · exact HJ.out j (by omega)
      case measure => simp [intOf]; omega
    · have HF := hide (show m = l from ext_getD HM.out fun j hj => HJ.out j (by rw [HM.out] at hj; omega))
      go_wp2
      go_ret
      have e := HF.out
      subst e
      exact ⟨_, _, rfl, hA.row (Nat.le_refl _) hl, hE⟩

/-- all blocks but those from lo on and below hi are as they were -/
structure Mid (lo hi : Nat) (w w' : World) : Prop where
  os : w'.os = w.os
  tape : w'.tape = w.tape
  output : w'.output = w.output
  size : w.heap.size ≤ w'.heap.size
  block : ∀ k, k < w.heap.size → (k < lo ∨ hi ≤ k) → w'.heap[k]? = w.heap[k]?
theorem Mid.refl (lo hi : Nat) (w : World) : Mid lo hi w w := ⟨rfl, rfl, rfl, Nat.le_refl _, fun _ _ _ => rfl⟩
theorem Mid.of_ext {lo hi : Nat} {w w' : World} (h : Ext w w') : Mid lo hi w w' := ⟨h.to.os, h.to.tape, h.to.output, h.to.size, fun k hk _ => h.to.block k hk⟩
theorem Mid.trans {lo hi : Nat} {a b c : World} (h : Mid lo hi a b) (k : Mid lo hi b c) : Mid lo hi a c :=
  ⟨k.os.trans h.os, k.tape.trans h.tape, k.output.trans h.output, Nat.le_trans h.size k.size, fun j hj hg => (k.block j (Nat.lt_of_lt_of_le hj h.size) hg).trans (h.block j hj hg)⟩
theorem Mid.poke {lo hi : Nat} {w w' : World} (h : Mid lo hi w w') {g : Nat} (h1 : lo ≤ g) (h2 : g < hi) (o : Nat) (v : Value) : Mid lo hi w (w'.setCell ⟨g, o, none⟩ v) :=
  ⟨h.os, h.tape, h.output, by simpa using h.size, fun k hk hg => (Below.heap_setCell w' ⟨g, o, none⟩ v k (show k ≠ g by omega)).trans (h.block k hk hg)⟩
theorem Mid.ext {lo hi : Nat} {a w w' : World} (h : Mid lo hi w w') (e : Ext a w) (hl : a.heap.size ≤ lo) : Ext a w' :=
  Ext.of ⟨h.os.trans e.to.os, h.tape.trans e.to.tape, h.output.trans e.to.output, Nat.le_trans e.size h.size, fun k hk => (h.block k (Nat.lt_of_lt_of_le hk e.size) (.inl (by omega))).trans (e.to.block k hk)⟩
theorem Mid.box {lo hi : Nat} {w w' : World} (h : Mid lo hi w w') {k : Nat} {cs : Array Value} {T : TypeId} (x : Box w k cs T) (hk : hi ≤ k) : Box w' k cs T := (h.block k x.lt (.inr hk)).trans x
theorem Mid.row {lo hi base : Nat} {w w' : World} (h : Mid lo hi w w') {sa : Option Addr} {cap : Nat} {l : List Int} (r : Row base w sa cap l) (hb : hi ≤ base) : Row base w' sa cap l := by
  obtain ⟨h1, h2⟩ := r
  refine ⟨h1, ?_⟩
  rcases h2 with h2 | ⟨g, c, cur, h2, h3, h4, h5⟩
  · exact .inl h2
  · exact .inr ⟨g, c, cur, h2, h3, (h.block g (size_of_heap h4) (.inr (by omega))).trans h4, h5⟩
theorem Row.inside {base : Nat} {w : World} {sa : Option Addr} {cap : Nat} {l : List Int} (r : Row base w sa cap l) : ∀ g off, sa = some ⟨g, off, none⟩ → base ≤ g ∧ g < w.heap.size := by
  obtain ⟨h1, h2⟩ := r
  intro g off he
  rcases h2 with ⟨h2, _⟩ | ⟨b, c, cur, h2, h3, h4, h5⟩
  · simp only [Value.slice.injEq] at h2; rw [he] at h2; cases h2.1
  · simp only [Value.slice.injEq] at h2; rw [he] at h2
    have := h2.1; cases this
    exact ⟨h3, size_of_heap h4⟩

/-- what marking leaves -/
def MarkMid (lo hi : Nat) (sa : Option Addr) (m : Int) (n : Nat) (w : World) (e : Ending) (w' : World) : Prop :=
  e = .returned (.int .i64 (m + n)) ∧ Lst w' sa (marks m n) ∧ Mid lo hi w w'
set_option maxHeartbeats 1000000 in
theorem markIntS_mid (lo hi : Nat) (sa : Option Addr) (cap : Nat) (l : List Int) (m : Int) (w : World) (h : Row lo w sa cap l) (hh : ∀ g off, sa = some ⟨g, off, none⟩ → g < hi) (hl : l.length ≤ 2000000) (hm0 : 0 ≤ m) (hm : m ≤ 2000000) :
    Calls Try.prog 41 #[.slice sa l.length cap, .int .i64 m] w (MarkMid lo hi sa m l.length w) := by
  rcases h.form with h0 | ⟨g, cur, rfl, h2, h3, h4⟩
  · clear h
    subst h0
    go_enter Try.func41, Try.ntmps41
    go_wp2
    go_loopw [1, 5] (fun k i wr => i = .int .i64 0 ∧ k = .int .i64 m ∧ w = wr) (fun _ _ _ => 0)
    case atStart => exact ⟨rfl, rfl, rfl⟩
    case round =>
      obtain ⟨rfl, rfl, rfl⟩ := hrel
      go_wp2
      go_ret
      exact ⟨ret_int (by simp), .inl rfl, Mid.refl _ _ _⟩
  · have hg2 := hh g 0 rfl
    clear h hh
    obtain ⟨n, hn⟩ : ∃ n, n = l.length := ⟨_, rfl⟩
    have hcells : ∀ j, j < n → ∃ u, w.cell? ⟨g, j, none⟩ = some u := fun j hj => ⟨_, (cell_of_block h3 j).trans (h4 j (by omega))⟩
    have hfz : ∀ j, w.frozen? ⟨g, j, none⟩ = false := fun j => unfrozen_of_block h3 j
    have hgs := size_of_heap h3
    rw [← hn] at hl ⊢
    clear hn h3 h4
    have HC := hide hcells
    have HF := hide hfz
    clear hcells hfz
    go_enter Try.func41, Try.ntmps41
    go_wp2
    go_loopw [1, 5] (fun k i wr => ∃ c : Nat, c ≤ n ∧ i = .int .i64 c ∧ k = .int .i64 (m + c) ∧ (∀ j, j < c → wr.cell? ⟨g, j, none⟩ = some (.int .i64 (m + j))) ∧ (∀ j, j < n → ∃ u, wr.cell? ⟨g, j, none⟩ = some u) ∧ (∀ j, wr.frozen? ⟨g, j, none⟩ = false) ∧ g < wr.heap.size ∧ Mid lo hi w wr)
      (fun _ i _ => n - (intOf i).toNat)
    case atStart => exact ⟨0, Nat.zero_le _, rfl, by simp, fun j hj => by omega, HC.out, HF.out, hgs, Mid.refl _ _ _⟩
    case round =>
      clear HC HF
      obtain ⟨c, hc, rfl, rfl, r1, r2, r3, r4, hB⟩ := hrel
      have R1 := hide r1
      have R2 := hide r2
      have R3 := hide r3
      have HB := hide hB
      clear r1 r2 r3 hB
      by_cases hlt : c < n
      · obtain ⟨u, hu⟩ := R2.out c hlt
        have hf := R3.out c
        go_wp2
        go_roundw
        case rel =>
          refine ⟨c + 1, by omega, by go_num, by go_num, fun j hj => ?_, fun j hj => ?_, fun j => ?_, by simpa using r4, HB.out.poke h2 hg2 _ _⟩
          · by_cases e : j = c
            · subst e; exact World.cell?_setCell_same' _ _ _ (by rw [hu]; rfl)
            · rw [World.cell?_setCell_other _ _ _ _ (by first | omega | (simp; done) | (simp; omega))]; exact R1.out j (by omega)
          · by_cases e : j = c
            · subst e; exact ⟨_, World.cell?_setCell_same' _ _ _ (by rw [hu]; rfl)⟩
            · rw [World.cell?_setCell_other _ _ _ _ (by first | omega | (simp; done) | (simp; omega))]; exact R2.out j hj
          · simpa using R3.out j
        case measure => simp [intOf]; omega
      · obtain rfl : c = n := by omega
        go_wp2
        go_ret
        refine ⟨rfl, .inr ⟨g, 0, rfl, r4, fun i hi => ?_⟩, HB.out⟩
        rw [marks_len] at hi
        rw [marks_at _ _ _ hi]; simpa using R1.out i hi
end Go.Proofs.Ytgmhodmgbhpdaac
