/- The generator's reader: what one draw does. 'Rdr': a reader lies in block g, over bytes that lie below B; 'pick' answers a number from 0 on that is less than its bound, or 0, and moves the reader on. -/
import Derived.Test.YtgmhodmgbhpdaadRows
import Derived.WalkKit
import Derived.ProofKit
import Derived.OpenShut
import Derived.Below
import Derived.Outline
import Derived.Deep.QuietTactic
import Derived.BigQuiet
import Derived.Lib.SmallJoins
namespace Go.Proofs.Ytgmhodmgbhpdaad
open Go.ChangeShapes Go.WideShapes Go.ChangeAt Go.RowKit Go.Joins
set_option linter.unusedVariables false

theorem hide {p : Prop} (h : p) : Hid p := h

theorem ret_bool {a b : Bool} (h : a = b) : Ending.returned (.bool a) = .returned (.bool b) := by rw [h]
theorem ret_int {a b : Int} (h : a = b) : Ending.returned (.int .i64 a) = .returned (.int .i64 b) := by rw [h]
theorem below_draw {B n : Nat} {a w : World} (h : Below B a w) : Below B a (w.drewN n) := ⟨h.os, h.tape, h.output, h.size, h.block⟩

theorem bcell {W w1 : World} (hb : Below W.heap.size W w1) : (∀ b o, b < W.heap.size → w1.cell? ⟨b, o, none⟩ = W.cell? ⟨b, o, none⟩) ∧ (∀ b o, b < W.heap.size → w1.frozen? ⟨b, o, none⟩ = W.frozen? ⟨b, o, none⟩) :=
  ⟨fun b o h => hb.cell (p := ⟨b, o, none⟩) h, fun b o h => hb.frozen (p := ⟨b, o, none⟩) h⟩

theorem xor_nn (a b : Int) (ha : 0 ≤ a) (ha2 : a < 1000000000000) (hb : 0 ≤ b) (hb2 : b < 1000000000000) : 0 ≤ bits .xor .i64 a b ∧ bits .xor .i64 a b < 9223372036854775808 := by
  obtain ⟨x, rfl⟩ := Int.eq_ofNat_of_zero_le ha
  obtain ⟨y, rfl⟩ := Int.eq_ofNat_of_zero_le hb
  have hx : x ^^^ y < 2 ^ 62 := Nat.xor_lt_two_pow (by omega) (by omega)
  have h1 : (BitVec.ofInt 64 (x : Int)).toNat = x := by
    rw [BitVec.ofInt_natCast, BitVec.toNat_ofNat]; exact Nat.mod_eq_of_lt (by omega)
  have h2 : (BitVec.ofInt 64 (y : Int)).toNat = y := by
    rw [BitVec.ofInt_natCast, BitVec.toNat_ofNat]; exact Nat.mod_eq_of_lt (by omega)
  have e : bits .xor .i64 (x : Int) (y : Int) = ((x ^^^ y : Nat) : Int) := by
    show IntKind.i64.wrap ((BitVec.ofInt 64 (x : Int) ^^^ BitVec.ofInt 64 (y : Int)).toNat : Int) = _
    rw [BitVec.toNat_xor, h1, h2, IntKind.wrap_i64]
    omega
  rw [e]; omega

/-- what a pick answers -/
def PickRet (n : Int) (w : World) (e : Ending) (w' : World) : Prop := ∃ v : Int, e = .returned (.int .i64 v) ∧ 0 ≤ v ∧ (v < n ∨ v = 0) ∧ ∃ m, w' = w.drewN m

theorem pick_zero (g : Nat) (sa : Option Addr) (len cap p : Nat) (n : Int) (w : World) (hc0 : w.cell? ⟨g, 0, none⟩ = some (.slice sa len cap)) (hc1 : w.cell? ⟨g, 1, none⟩ = some (.int .i64 p)) (hf1 : w.frozen? ⟨g, 1, none⟩ = false) (hp : p < 1000000) (hn : n < 1) :
    Calls Try.prog 54 #[.pointer (some ⟨g, 0, none⟩), .int .i64 n] w (PickRet n (w.setCell ⟨g, 1, none⟩ (.int .i64 (p + 1)))) := by
  go_enter Try.func54, Try.ntmps54
  go_wp2
  go_ret
  exact ⟨0, rfl, by omega, .inr rfl, 0, rfl⟩

theorem pick_empty (g : Nat) (sa : Option Addr) (cap p : Nat) (n : Int) (w : World) (hc0 : w.cell? ⟨g, 0, none⟩ = some (.slice sa 0 cap)) (hc1 : w.cell? ⟨g, 1, none⟩ = some (.int .i64 p)) (hf1 : w.frozen? ⟨g, 1, none⟩ = false) (hp : p < 1000000) (hn : 1 ≤ n) :
    Calls Try.prog 54 #[.pointer (some ⟨g, 0, none⟩), .int .i64 n] w (PickRet n (w.setCell ⟨g, 1, none⟩ (.int .i64 (p + 1)))) := by
  go_enter Try.func54, Try.ntmps54
  go_wp2
  go_ret
  exact ⟨0, rfl, by omega, .inr rfl, 0, rfl⟩

theorem pick_near (g b off len cap p : Nat) (z : Int) (n : Int) (w : World) (hc0 : w.cell? ⟨g, 0, none⟩ = some (.slice (some ⟨b, off, none⟩) len cap)) (hc1 : w.cell? ⟨g, 1, none⟩ = some (.int .i64 p)) (hf1 : w.frozen? ⟨g, 1, none⟩ = false) (hp : p < 1000000) (hn : 1 ≤ n)
    (hbg : b ≠ g) (hl : p < len) (hz : w.cell? ⟨b, off + p, none⟩ = some (.int .u8 z)) (hz0 : 0 ≤ z) (hz1 : z ≤ 255) :
    Calls Try.prog 54 #[.pointer (some ⟨g, 0, none⟩), .int .i64 n] w (PickRet n (w.setCell ⟨g, 1, none⟩ (.int .i64 (p + 1)))) := by
  have h1 := Int.emod_nonneg z (b := n) (by omega)
  have h2 := Int.emod_lt_of_pos z (b := n) (by omega)
  have hne : ((len : Int) == 0) = false := by simp; omega
  have hgb : g ≠ b := hbg.symm
  go_enter Try.func54, Try.ntmps54
  go_wp2
  go_ret
  exact ⟨_, rfl, h1, .inl h2, 0, rfl⟩

set_option maxHeartbeats 1000000 in
theorem pick_far (g b off len cap p : Nat) (z1 z2 : Int) (n : Int) (w : World) (hc0 : w.cell? ⟨g, 0, none⟩ = some (.slice (some ⟨b, off, none⟩) len cap)) (hc1 : w.cell? ⟨g, 1, none⟩ = some (.int .i64 p)) (hf1 : w.frozen? ⟨g, 1, none⟩ = false) (hp : p < 1000000) (hn : 1 ≤ n)
    (hbg : b ≠ g) (hl0 : 0 < len) (hl2 : len ≤ 2000) (hl : len ≤ p) (hz : w.cell? ⟨b, off + p % len, none⟩ = some (.int .u8 z1)) (hz0 : 0 ≤ z1) (hz1 : z1 ≤ 255) (hy : w.cell? ⟨b, off + (p * 7 + 3) % len, none⟩ = some (.int .u8 z2)) (hy0 : 0 ≤ z2) (hy1 : z2 ≤ 255) :
    Calls Try.prog 54 #[.pointer (some ⟨g, 0, none⟩), .int .i64 n] w (PickRet n (w.setCell ⟨g, 1, none⟩ (.int .i64 (p + 1)))) := by
  have hne : ((len : Int) == 0) = false := by simp; omega
  have hgb : g ≠ b := hbg.symm
  have a1 : 0 ≤ (p : Int) % (len : Int) := Int.emod_nonneg _ (by omega)
  have a2 : (p : Int) % (len : Int) < len := Int.emod_lt_of_pos _ (by omega)
  have a3 : 0 ≤ ((p : Int) * 7 + 3) % (len : Int) := Int.emod_nonneg _ (by omega)
  have a4 : ((p : Int) * 7 + 3) % (len : Int) < len := Int.emod_lt_of_pos _ (by omega)
  have a5 : 0 ≤ (p : Int) / (len : Int) := Int.ediv_nonneg (by omega) (by omega)
  have a6 : (p : Int) / (len : Int) ≤ p := Int.ediv_le_self _ (by omega)
  have H := hide (xor_nn (z1 * 131 + z2 * 1117 + (p : Int) * 29 + (p : Int) / (len : Int) * 53) ((z1 * 131 + z2 * 1117 + (p : Int) * 29 + (p : Int) / (len : Int) * 53) / 64) (by omega) (by omega) (by omega) (by omega))
  go_enter Try.func54, Try.ntmps54
  go_wp2
  go_quiet (fail)
  go_wp2
  go_ret
  have h := H.out
  refine ⟨_, rfl, ?_, .inl ?_, _, rfl⟩
  · rw [Int.tmod_eq_emod_of_nonneg h.1]; exact Int.emod_nonneg _ (by omega)
  · rw [Int.tmod_eq_emod_of_nonneg h.1]; exact Int.emod_lt_of_pos _ (by omega)

/-- the bytes that a reader reads: they lie below B -/
def Bytes (B : Nat) (w : World) (sa : Option Addr) (len : Nat) : Prop :=
  len = 0 ∨ ∃ b off, sa = some ⟨b, off, none⟩ ∧ b < B ∧ len ≤ 2000 ∧ ∀ i, i < len → ∃ z : Int, w.cell? ⟨b, off + i, none⟩ = some (.int .u8 z) ∧ 0 ≤ z ∧ z ≤ 255

/-- a reader lies in block g, with p picks done -/
def Rdr (B : Nat) (w : World) (g p : Nat) : Prop :=
  B ≤ g ∧ g < w.heap.size ∧ w.frozen? ⟨g, 1, none⟩ = false ∧ w.cell? ⟨g, 1, none⟩ = some (.int .i64 p) ∧
    ∃ sa len cap, w.cell? ⟨g, 0, none⟩ = some (.slice sa len cap) ∧ Bytes B w sa len

/-- all blocks but g are as they were -/
structure But (g : Nat) (w w' : World) : Prop where
  os : w'.os = w.os
  tape : w'.tape = w.tape
  output : w'.output = w.output
  size : w.heap.size ≤ w'.heap.size
  block : ∀ k, k < w.heap.size → k ≠ g → w'.heap[k]? = w.heap[k]?

theorem But.refl (g : Nat) (w : World) : But g w w := ⟨rfl, rfl, rfl, Nat.le_refl _, fun _ _ _ => rfl⟩
theorem But.trans {g : Nat} {a b c : World} (h : But g a b) (k : But g b c) : But g a c :=
  ⟨k.os.trans h.os, k.tape.trans h.tape, k.output.trans h.output, Nat.le_trans h.size k.size, fun j hj hg => (k.block j (Nat.lt_of_lt_of_le hj h.size) hg).trans (h.block j hj hg)⟩
theorem But.of_below {g : Nat} {a b : World} (h : Below a.heap.size a b) : But g a b := ⟨h.os, h.tape, h.output, h.size, fun k hk _ => h.block k hk⟩
theorem But.to_below {g B : Nat} {a b : World} (h : But g a b) (hg : B ≤ g) (hB : B ≤ a.heap.size) : Below B a b :=
  ⟨h.os, h.tape, h.output, h.size, fun k hk => h.block k (by omega) (by omega)⟩
theorem But.cell {g : Nat} {a b : World} (h : But g a b) (k o : Nat) (hk : k < a.heap.size) (hg : k ≠ g) : b.cell? ⟨k, o, none⟩ = a.cell? ⟨k, o, none⟩ :=
  World.cell?_of_block (w := a) (h.block k hk hg)
theorem But.frozen {g : Nat} {a b : World} (h : But g a b) (k o : Nat) (hk : k < a.heap.size) (hg : k ≠ g) : b.frozen? ⟨k, o, none⟩ = a.frozen? ⟨k, o, none⟩ :=
  World.frozen?_of_block (w := a) (h.block k hk hg)
theorem But.step (g : Nat) (w : World) (o : Nat) (v : Value) (m : Nat) : But g w ((w.setCell ⟨g, o, none⟩ v).drewN m) := by
  refine ⟨rfl, rfl, rfl, by simp, fun k _ hg => ?_⟩
  show (w.setCell ⟨g, o, none⟩ v).heap[k]? = _
  exact Below.heap_setCell w ⟨g, o, none⟩ v k hg

theorem Bytes.but {B g : Nat} {w w' : World} {sa : Option Addr} {len : Nat} (h : Bytes B w sa len) (hb : But g w w') (hg : B ≤ g) (hB : B ≤ w.heap.size) : Bytes B w' sa len := by
  rcases h with h | ⟨b, off, h1, h2, h3, h4⟩
  · exact .inl h
  · refine .inr ⟨b, off, h1, h2, h3, fun i hi => ?_⟩
    obtain ⟨z, hz, hz'⟩ := h4 i hi
    exact ⟨z, (hb.cell b (off + i) (by omega) (by omega)).trans hz, hz'⟩

/-- the reader stays as it is where other blocks are written or made -/
theorem Rdr.keep {B g p : Nat} {w w' : World} (h : Rdr B w g p) (hb : Below w.heap.size w w') : Rdr B w' g p := by
  obtain ⟨h1, h2, h3, h4, sa, len, cap, h5, h6⟩ := h
  refine ⟨h1, by have := hb.size; omega, (hb.frozen (p := ⟨g, 1, none⟩) h2).trans h3, (hb.cell (p := ⟨g, 1, none⟩) h2).trans h4, sa, len, cap, (hb.cell (p := ⟨g, 0, none⟩) h2).trans h5, ?_⟩
  exact h6.but (But.of_below (g := g) hb) h1 (by omega)

/-- a new block, and blocks that are known whole -/
theorem box_new (w : World) (cs : Array Value) (T : TypeId) : (w.alloc (.cells cs T)).heap[w.heap.size]? = some (.cells cs T (0, 0)) := by
  show (w.heap.push _)[w.heap.size]? = _
  simp
theorem But.box {g k : Nat} {a b : World} {o : Obj} (h : But g a b) (hk : k < a.heap.size) (hg : k ≠ g) (hx : a.heap[k]? = some o) : b.heap[k]? = some o := (h.block k hk hg).trans hx
theorem below_box {B k : Nat} {a b : World} {o : Obj} (h : Below B a b) (hk : k < B) (hx : a.heap[k]? = some o) : b.heap[k]? = some o := (h.block k hk).trans hx
theorem box_alloc {k : Nat} {w : World} {o : Obj} (hk : k < w.heap.size) (hx : w.heap[k]? = some o) (o' : Obj) : (w.alloc o').heap[k]? = some o := (Below.heap_alloc w o' k hk).trans hx
theorem box1 {w : World} {k : Nat} {a : Value} {T : TypeId} (h : w.heap[k]? = some (.cells #[a] T (0, 0))) : w.cell? ⟨k, 0, none⟩ = some a ∧ w.frozen? ⟨k, 0, none⟩ = false :=
  ⟨cell_of_block h 0, unfrozen_of_block h 0⟩
theorem box2 {w : World} {k : Nat} {a b : Value} {T : TypeId} (h : w.heap[k]? = some (.cells #[a, b] T (0, 0))) : w.cell? ⟨k, 0, none⟩ = some a ∧ w.cell? ⟨k, 1, none⟩ = some b ∧ w.frozen? ⟨k, 0, none⟩ = false ∧ w.frozen? ⟨k, 1, none⟩ = false :=
  ⟨cell_of_block h 0, cell_of_block h 1, unfrozen_of_block h 0, unfrozen_of_block h 1⟩

theorem Rdr.put {B g p : Nat} {w : World} (h : Rdr B w g p) (k o : Nat) (v : Value) (hk : k ≠ g) (hB : B ≤ k) : Rdr B (w.setCell ⟨k, o, none⟩ v) g p := by
  obtain ⟨h1, h2, h3, h4, sa, len, cap, h5, h6⟩ := h
  refine ⟨h1, by simpa using h2, by simpa using h3, ?_, sa, len, cap, ?_, ?_⟩
  · rw [World.cell?_setCell_other _ _ _ _ (by first | omega | (simp; done) | (simp; omega))]; exact h4
  · rw [World.cell?_setCell_other _ _ _ _ (by first | omega | (simp; done) | (simp; omega))]; exact h5
  · rcases h6 with h | ⟨b, off, e1, e2, e3, e4⟩
    · exact .inl h
    · refine .inr ⟨b, off, e1, e2, e3, fun i hi => ?_⟩
      rw [World.cell?_setCell_other _ _ _ _ (by first | omega | (simp; done) | (simp; omega))]; exact e4 i hi
theorem But.put {g : Nat} {w w' : World} (h : But g w w') (k o : Nat) (v : Value) (hk : w.heap.size ≤ k) : But g w (w'.setCell ⟨k, o, none⟩ v) :=
  ⟨h.os, h.tape, h.output, by simpa using h.size, fun j hj hg => (Below.heap_setCell w' ⟨k, o, none⟩ v j (by show j ≠ k; omega)).trans (h.block j hj hg)⟩

def PickRes (B g p : Nat) (n : Int) (w : World) (e : Ending) (w' : World) : Prop :=
  ∃ v : Int, e = .returned (.int .i64 v) ∧ 0 ≤ v ∧ (v < n ∨ v = 0) ∧ Rdr B w' g (p + 1) ∧ But g w w' ∧ w'.heap.size = w.heap.size

theorem pick_any (B g p : Nat) (n : Int) (w : World) (h : Rdr B w g p) (hp : p < 1000000) :
    Calls Try.prog 54 #[.pointer (some ⟨g, 0, none⟩), .int .i64 n] w (PickRes B g p n w) := by
  obtain ⟨h1, h2, h3, h4, sa, len, cap, h5, h6⟩ := h
  have key : Calls Try.prog 54 #[.pointer (some ⟨g, 0, none⟩), .int .i64 n] w (PickRet n (w.setCell ⟨g, 1, none⟩ (.int .i64 (p + 1)))) := by
    by_cases hn : n < 1
    · exact pick_zero g sa len cap p n w h5 h4 h3 hp hn
    · rcases h6 with rfl | ⟨b, off, rfl, hb, hl, hz⟩
      · exact pick_empty g sa cap p n w h5 h4 h3 hp (by omega)
      · by_cases hl0 : len = 0
        · subst hl0; exact pick_empty g _ cap p n w h5 h4 h3 hp (by omega)
        · by_cases hlt : p < len
          · obtain ⟨z, hz1, hz2, hz3⟩ := hz p hlt
            exact pick_near g b off len cap p z n w h5 h4 h3 hp (by omega) (by omega) hlt hz1 hz2 hz3
          · obtain ⟨z, hz1, hz2, hz3⟩ := hz (p % len) (Nat.mod_lt _ (by omega))
            obtain ⟨y, hy1, hy2, hy3⟩ := hz ((p * 7 + 3) % len) (Nat.mod_lt _ (by omega))
            exact pick_far g b off len cap p z y n w h5 h4 h3 hp (by omega) (by omega) (by omega) hl (by omega) hz1 hz2 hz3 hy1 hy2 hy3
  refine key.mono fun e w' ⟨v, he, hv0, hv1, m, hw⟩ => ?_
  subst hw
  have hb := But.step g w 1 (.int .i64 (p + 1)) m
  refine ⟨v, he, hv0, hv1, ⟨h1, by simpa using h2, ?_, ?_, sa, len, cap, ?_, h6.but hb h1 (by omega)⟩, hb, by simp⟩
  · show (w.setCell ⟨g, 1, none⟩ _).frozen? _ = _
    simpa using h3
  · show (w.setCell ⟨g, 1, none⟩ _).cell? _ = _
    have := World.cell?_setCell_same' w ⟨g, 1, none⟩ (.int .i64 ((p : Int) + 1)) (by rw [h4]; rfl)
    simpa using this
  · show (w.setCell ⟨g, 1, none⟩ _).cell? _ = _
    rw [World.cell?_setCell_other _ _ _ _ (by simp)]; exact h5

end Go.Proofs.Ytgmhodmgbhpdaad
