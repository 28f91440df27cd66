/- Chapter 3: lists of reveals: what the exact laws' helpers do with them. -/
import Derived.Test.YthbkkbcbhhmhoacRev3
import Derived.Test.YthbkkbcbhhmhoacBodyX
namespace Go.Proofs.Ythbkkbcbhhmhoac
open Go.ChangeShapes Go.WideShapes Go.ChangeAt Go.RowKit Go.Joins Go.Sort
set_option linter.unusedVariables false

theorem Try.infoRv : (Try.prog.info? 51).map (fun i => (i.zero, i.size, i.bytes)) = some (some (.agg #[.int .i64 0, .int .i64 0, .int .i64 0]), 3, 24) := by kernel_rfl
theorem made_rvs (n : Nat) : madeCells (Value.agg #[.int .i64 0, .int .i64 0, .int .i64 0]).cells (n * 3) = ints (zeros (n * 3)) := by
  apply Array.ext
  · simp [madeCells, ints, zeros]
  · intro i h1 h2
    have h3 : i % 3 = 0 ∨ i % 3 = 1 ∨ i % 3 = 2 := by omega
    rcases h3 with h | h | h <;> simp [madeCells, Value.cells, ints, zeros, h]
theorem run_makeRvs (n : Nat) (hn : n ≤ 2000000) (w : World) : (Instr.makeSlice 33 (.int .i64 (n : Int)) (.int .i64 (n : Int))).run Try.prog w =
    .ok (.slice (some ⟨w.heap.size, 0, none⟩) n n) (w.alloc (.cells (ints (zeros (n * 3))) 51)) := by
  obtain ⟨i0, hi, hz0, hz1, hz2⟩ := info_parts Try.infoRv
  have hr := run_make (P := Try.prog) w 33 51 i0 _ Try.underlying33 hi hz0 .i64 .i64 n n (by omega) (Int.le_refl _) (by rw [hz2]; omega) (by omega)
  rw [hz1, Int.toNat_natCast, made_rvs] at hr
  exact hr
/-- a block that holds a list of reveals, whole, number by number -/
def ArrR (w : World) (g : Nat) (m : List Int) : Prop := Box w g (ints m) 51
theorem ArrR.cell {w : World} {g : Nat} {l : List Int} (h : ArrR w g l) {j : Nat} (hj : j < l.length) : w.cell? ⟨g, j, none⟩ = some (.int .i64 (l.getD j 0)) := by
  rw [cell_of_block h j]; simp [ints, hj, List.getD_eq_getElem?_getD]
theorem ArrR.free {w : World} {g : Nat} {l : List Int} (h : ArrR w g l) (j : Nat) : w.frozen? ⟨g, j, none⟩ = false := unfrozen_of_block h j
theorem ArrR.keep {w w' : World} {g : Nat} {l : List Int} (h : ArrR w g l) (e : Ext w w') : ArrR w' g l := Box.keep h e
theorem ArrR.set {w : World} {g : Nat} {l : List Int} (h : ArrR w g l) (j : Nat) (x : Int) : ArrR (w.setCell ⟨g, j, none⟩ (.int .i64 x)) g (l.set j x) := by
  have := Box.set h j (.int .i64 x)
  unfold ArrR ints
  rw [List.map_set]
  simpa [ints] using this
/-- the numbers are those of the first k reveals -/
def rvIs (m : List Int) (ll : List Rv) (k : Nat) : Prop := ∀ i, i < k → m.getD (i * 3) 0 = (ll.getD i Rv.z).c ∧ m.getD (i * 3 + 1) 0 = (ll.getD i Rv.z).v ∧ m.getD (i * 3 + 2) 0 = (ll.getD i Rv.z).s
theorem ArrR.rst {w : World} {g : Nat} {m : List Int} {ll : List Rv} (h : ArrR w g m) (hl : m.length = ll.length * 3) (hi : rvIs m ll ll.length) : Rst w (some ⟨g, 0, none⟩) ll := by
  refine .inr ⟨g, 0, rfl, Box.lt h, fun i hil => ?_⟩
  obtain ⟨a, b, c⟩ := hi i hil
  rw [Nat.zero_add]
  exact ⟨by rw [h.cell (by omega), a], by rw [h.cell (by omega), b], by rw [h.cell (by omega), c]⟩
theorem rvIs_set {m : List Int} {ll : List Rv} {k : Nat} (h : rvIs m ll k) (hk : k * 3 + 2 < m.length) : rvIs (((m.set (k * 3) (ll.getD k Rv.z).c).set (k * 3 + 1) (ll.getD k Rv.z).v).set (k * 3 + 2) (ll.getD k Rv.z).s) ll (k + 1) := by
  intro i hi
  have l1 : (m.set (k * 3) (ll.getD k Rv.z).c).length = m.length := List.length_set
  have l2 : ((m.set (k * 3) (ll.getD k Rv.z).c).set (k * 3 + 1) (ll.getD k Rv.z).v).length = m.length := by rw [List.length_set, l1]
  rw [set_getD _ _ _ _ (by omega), set_getD _ _ _ _ (by omega), set_getD _ _ _ _ (by omega), set_getD _ _ _ _ (by omega), set_getD _ _ _ _ (by omega), set_getD _ _ _ _ (by omega), set_getD _ _ _ _ (by omega), set_getD _ _ _ _ (by omega), set_getD _ _ _ _ (by omega)]
  by_cases e : i = k
  · subst e
    refine ⟨?_, ?_, ?_⟩
    · rw [if_neg (by omega), if_neg (by omega), if_pos rfl]
    · rw [if_neg (by omega), if_pos rfl]
    · rw [if_pos rfl]
  · obtain ⟨a, b, c⟩ := h i (by omega)
    refine ⟨?_, ?_, ?_⟩
    · rw [if_neg (by omega), if_neg (by omega), if_neg (by omega), a]
    · rw [if_neg (by omega), if_neg (by omega), if_neg (by omega), b]
    · rw [if_neg (by omega), if_neg (by omega), if_neg (by omega), c]
theorem szRevealS_any (sa : Option Addr) (cap n : Nat) (left : Int) (w : World) (hn : n ≤ maxLen) (h0 : 0 ≤ left) (h1 : left ≤ 2000000) :
    Calls Try.prog 23 #[.slice sa n cap, .int .i64 left] w (Same (.int .i64 (szf n left)) w) := by
  unfold maxLen at hn
  by_cases h : (n : Int) ≤ left
  · have H := hide (szf_yes h)
    go_enter Try.func23, Try.ntmps23
    go_wp2
    go_ret
    exact Same.int (by rw [H.out])
  · have H := hide (szf_no h)
    go_enter Try.func23, Try.ntmps23
    go_wp2
    go_ret
    exact Same.int (by rw [H.out])
set_option maxHeartbeats 400000 in
theorem toReveal_any (c v s : Int) (w : World) :
    Calls Try.prog 64 #[.agg #[.int .i64 c, .int .i64 v, .int .i64 s]] w (Ret (.agg #[.int .i64 c, .int .i64 v, .int .i64 s]) w) := by
  go_enter Try.func64, Try.ntmps64
  have x1 := ((Box.new w #[.int .i64 c, .int .i64 v, .int .i64 s] 67).push (.cells #[.int .i64 0, .int .i64 0, .int .i64 0] 51)).push (.cells #[.int .i64 0, .int .i64 0, .int .i64 0] 51)
  obtain ⟨a0, a1, a2⟩ := x1.three
  go_wp2
  have x2 := (Box.newAt (w.alloc (.cells #[.int .i64 c, .int .i64 v, .int .i64 s] 67)) (w.heap.size + 1) #[.int .i64 c, .int .i64 v, .int .i64 s] 51 (by simp)).push (.cells #[.int .i64 c, .int .i64 v, .int .i64 s] 51)
  obtain ⟨b0, b1, b2⟩ := x2.three
  refine bodyPost_ret (v := .agg #[.int .i64 c, .int .i64 v, .int .i64 s]) (by simp [results, Try.results64, go_sem, b0, b1, b2]) rfl ?_
  exact ⟨rfl, (((Ext.refl w).alloc _).alloc _).alloc _⟩
/-- what a call that makes a list of reveals answers -/
def RetRvs (ll : List Rv) (w : World) (e : Ending) (w' : World) : Prop :=
  ∃ m : List Int, e = .returned (.slice (some ⟨w.heap.size, 0, none⟩) ll.length ll.length) ∧ ArrR w' w.heap.size m ∧ m.length = ll.length * 3 ∧ rvIs m ll ll.length ∧ Ext w w'
set_option maxHeartbeats 400000 in
theorem toRevealS_any (sa : Option Addr) (cap : Nat) (ll : List Rv) (w : World) (h : Rst w sa ll) (hl : ll.length ≤ 2000000) :
    Calls Try.prog 25 #[.slice sa ll.length cap] w (RetRvs ll w) := by
  have H := hide h; clear h
  have hmk := run_makeRvs ll.length hl
  have HZ := hide (zeros_len (ll.length * 3))
  have A0 : ArrR (w.alloc (.cells (ints (zeros (ll.length * 3))) 51)) w.heap.size (zeros (ll.length * 3)) := Box.new _ _ _
  have E0 := (Ext.refl w).alloc (.cells (ints (zeros (ll.length * 3))) 51)
  go_enter Try.func25, Try.ntmps25
  go_wp2
  clear hmk
  go_loopw [4] (fun i wr => ∃ (k : Nat) (m : List Int), k ≤ ll.length ∧ i = .int .i64 k ∧ Hid (m.length = ll.length * 3) ∧ Hid (rvIs m ll k) ∧ ArrR wr w.heap.size m ∧ Ext w wr) (fun i _ => ll.length - (intOf i).toNat)
  case atStart => exact ⟨0, _, Nat.zero_le _, rfl, HZ.out, (show rvIs _ ll 0 from fun i hi => absurd hi (Nat.not_lt_zero _)), A0, E0⟩
  case round =>
    clear A0 E0 HZ
    obtain ⟨k, m, hk, rfl, HM, HI, hA, hE⟩ := hrel
    by_cases hlt : k < ll.length
    · obtain ⟨g, off, rfl, hg, q0, q1, q2⟩ := (H.out.ext hE).at hlt
      have HS := hide (rvIs_set HI.out (show k * 3 + 2 < m.length by rw [HM.out]; omega))
      have HL := hide (show (((m.set (k * 3) (ll.getD k Rv.z).c).set (k * 3 + 1) (ll.getD k Rv.z).v).set (k * 3 + 2) (ll.getD k Rv.z).s).length = ll.length * 3 by rw [List.length_set, List.length_set, List.length_set, HM.out])
      obtain ⟨c, hc⟩ : ∃ c, c = (ll.getD k Rv.z).c := ⟨_, rfl⟩; rw [← hc] at q0 HS HL
      obtain ⟨v, hv⟩ : ∃ v, v = (ll.getD k Rv.z).v := ⟨_, rfl⟩; rw [← hv] at q1 HS HL
      obtain ⟨s, hs⟩ : ∃ s, s = (ll.getD k Rv.z).s := ⟨_, rfl⟩; rw [← hs] at q2 HS HL
      clear hc hv hs
      go_wp2_with fail; refine (toReveal_any c v s _).mono ?_; rintro e w2 ⟨rfl, E2⟩
      have hA2 := hA.keep E2
      have hE2 := hE.trans E2
      have d0 := hA2.cell (j := k * 3) (by rw [HM.out]; omega)
      have d1 := hA2.cell (j := k * 3 + 1) (by rw [HM.out]; omega)
      have d2 := hA2.cell (j := k * 3 + 2) (by rw [HM.out]; omega)
      have f0 := hA2.free (k * 3)
      have f1 := hA2.free (k * 3 + 1)
      have f2 := hA2.free (k * 3 + 2)
      obtain ⟨y0, hy0⟩ : ∃ y0, y0 = m.getD (k * 3) 0 := ⟨_, rfl⟩; rw [← hy0] at d0
      obtain ⟨y1, hy1⟩ : ∃ y1, y1 = m.getD (k * 3 + 1) 0 := ⟨_, rfl⟩; rw [← hy1] at d1
      obtain ⟨y2, hy2⟩ : ∃ y2, y2 = m.getD (k * 3 + 2) 0 := ⟨_, rfl⟩; rw [← hy2] at d2
      clear hy0 hy1 hy2
      go_wp2
      go_roundw
      case rel => exact ⟨k + 1, _, by omega, by go_num, HL, HS, ((hA2.set (k * 3) c).set (k * 3 + 1) v).set (k * 3 + 2) s, ((hE2.setCell (Nat.le_refl _) _).setCell (Nat.le_refl _) _).setCell (Nat.le_refl _) _⟩
      case measure => simp [intOf]; omega
    · obtain rfl : k = ll.length := by omega
      go_wp2
      go_ret
      exact ⟨m, rfl, hA, HM.out, HI.out, hE⟩
set_option maxHeartbeats 400000 in
theorem eqReveal_same (c v s : Int) (w : World) :
    Calls Try.prog 66 #[.agg #[.int .i64 c, .int .i64 v, .int .i64 s], .agg #[.int .i64 c, .int .i64 v, .int .i64 s]] w (Ret (.bool true) w) := by
  have h1 : ((c : Int) != c) = false := by simp
  have h2 : ((v : Int) != v) = false := by simp
  have h3 : ((s : Int) != s) = false := by simp
  go_enter Try.func66, Try.ntmps66
  have x1 := (Box.new w #[.int .i64 c, .int .i64 v, .int .i64 s] 51).push (.cells #[.int .i64 c, .int .i64 v, .int .i64 s] 51)
  have x2 := (Box.newAt (w.alloc (.cells #[.int .i64 c, .int .i64 v, .int .i64 s] 51)) (w.heap.size + 1) #[.int .i64 c, .int .i64 v, .int .i64 s] 51 (by simp))
  obtain ⟨a0, a1, a2⟩ := x1.three
  obtain ⟨b0, b1, b2⟩ := x2.three
  go_wp2
  go_ret
  exact Ret.bool rfl (((Ext.refl w).alloc _).alloc _)
end Go.Proofs.Ythbkkbcbhhmhoac
