/- Worlds that have grown, answers that leave what was there, boxes; a drawn region of reads and such calls in one walk. -/
import Derived.Test.YtgmhodmgbhpdaadLists
import Derived.Lib.QuietBelow
import Derived.Deep.RegionHeld3
namespace Go.Proofs.Ytgmhodmgbhpdaad
open Go.ChangeShapes Go.WideShapes Go.ChangeAt Go.RowKit Go.Joins Go.Sort
set_option linter.unusedVariables false

/-- nothing of what was there has turned -/
def Ext (a b : World) : Prop := Below a.heap.size a b
theorem Ext.refl (a : World) : Ext a a := Below.refl _ _
theorem Ext.of {a b : World} (h : Below a.heap.size a b) : Ext a b := h
theorem Ext.to {a b : World} (h : Ext a b) : Below a.heap.size a b := h
theorem Ext.size {a b : World} (h : Ext a b) : a.heap.size ≤ b.heap.size := Below.size h
theorem Ext.trans {a b c : World} (h : Ext a b) (k : Ext b c) : Ext a c := Below.trans h (Below.mono k (Below.size h))
theorem Ext.below {a b c : World} (h : Ext a b) {n : Nat} (k : Below n b c) (hn : a.heap.size ≤ n) : Ext a c := Below.trans h (k.mono hn)
theorem Ext.alloc {a b : World} (h : Ext a b) (o : Obj) : Ext a (b.alloc o) := Below.alloc h (Below.size h) o
theorem Ext.drew {a b : World} (h : Ext a b) : Ext a b.drew := Below.drew h
theorem Ext.drewN {a b : World} (h : Ext a b) (n : Nat) : Ext a (b.drewN n) := below_draw h
theorem Ext.setCell {a b : World} (h : Ext a b) {k o : Nat} (hk : a.heap.size ≤ k) (v : Value) : Ext a (b.setCell ⟨k, o, none⟩ v) := Below.setCell h (by simpa using hk) v
theorem Ext.cell {a b : World} (h : Ext a b) {k o : Nat} (hk : k < a.heap.size) : b.cell? ⟨k, o, none⟩ = a.cell? ⟨k, o, none⟩ := Below.cell (p := ⟨k, o, none⟩) h hk
theorem Ext.lt {a b : World} (h : Ext a b) {k : Nat} (hk : k < a.heap.size) : k < b.heap.size := Nat.lt_of_lt_of_le hk h.size
theorem Ext.regrown {a b : World} (h : Ext a b) (d : Nat) (os : Array Obj) : Ext a (grow (redrawn b d) os) := h.trans (below_regrown b d os)
theorem Ext.class {a b : World} (h : ∃ p : Regrown, b = grow (redrawn a p.d) p.os) : Ext a b := by
  obtain ⟨p, rfl⟩ := h; exact below_regrown a p.d p.os

/-- what a function answers that leaves what was there -/
def Ret (v : Value) (w : World) (e : Ending) (w' : World) : Prop := e = .returned v ∧ Ext w w'
theorem Ret.same {v : Value} {w : World} : Ret v w (.returned v) w := ⟨rfl, Ext.refl w⟩
theorem Ret.bool {a b : Bool} {w w' : World} (h : a = b) (e : Ext w w') : Ret (.bool b) w (.returned (.bool a)) w' := ⟨ret_bool h, e⟩
theorem Ret.int {a b : Int} {w w' : World} (h : a = b) (e : Ext w w') : Ret (.int .i64 b) w (.returned (.int .i64 a)) w' := ⟨ret_int h, e⟩
theorem Ret.quiet {P : Program} {f : FuncId} {args : Array Value} {w : World} {d : Nat} {os : Array Obj} {v : Value}
    (h : Calls P f args (grow (redrawn w d) os) (Ret v (grow (redrawn w d) os))) : Calls P f args (grow (redrawn w d) os) fun e w'' => e = .returned v ∧ ∃ p : Regrown, w'' = grow (redrawn w p.d) p.os :=
  Calls.regrown_of h

/-- what a function answers that leaves the world alone -/
def Same (v : Value) (w : World) (e : Ending) (w' : World) : Prop := e = .returned v ∧ w = w'
theorem Same.bool {a b : Bool} {w : World} (h : a = b) : Same (.bool b) w (.returned (.bool a)) w := ⟨ret_bool h, rfl⟩
theorem Same.int {a b : Int} {w : World} (h : a = b) : Same (.int .i64 b) w (.returned (.int .i64 a)) w := ⟨ret_int h, rfl⟩
theorem Same.ret {P : Program} {f : FuncId} {args : Array Value} {w : World} {v : Value} (h : Calls P f args w (Same v w)) : Calls P f args w (Ret v w) :=
  h.mono fun e w' ⟨h1, h2⟩ => ⟨h1, by subst h2; exact Ext.refl w⟩
theorem Same.quiet {P : Program} {f : FuncId} {args : Array Value} {w : World} {d : Nat} {os : Array Obj} {v : Value}
    (h : Calls P f args (grow (redrawn w d) os) (Same v (grow (redrawn w d) os))) : Calls P f args (grow (redrawn w d) os) fun e w'' => e = .returned v ∧ ∃ p : Regrown, w'' = grow (redrawn w p.d) p.os :=
  Ret.quiet (Same.ret h)

/-- a block that is known whole -/
def Box (w : World) (k : Nat) (cs : Array Value) (T : TypeId) : Prop := w.heap[k]? = some (.cells cs T (0, 0))
theorem Box.new (w : World) (cs : Array Value) (T : TypeId) : Box (w.alloc (.cells cs T)) w.heap.size cs T := box_new w cs T
theorem Box.newAt (w : World) (k : Nat) (cs : Array Value) (T : TypeId) (hk : k = w.heap.size) : Box (w.alloc (.cells cs T)) k cs T := by subst hk; exact Box.new w cs T
theorem Box.keep {w w' : World} {k : Nat} {cs : Array Value} {T : TypeId} (h : Box w k cs T) (e : Ext w w') : Box w' k cs T := (Below.block e k (size_of_heap h)).trans h
theorem Box.lt {w : World} {k : Nat} {cs : Array Value} {T : TypeId} (h : Box w k cs T) : k < w.heap.size := size_of_heap h
theorem Box.push {w : World} {k : Nat} {cs : Array Value} {T : TypeId} (h : Box w k cs T) (o : Obj) : Box (w.alloc o) k cs T := h.keep ((Ext.refl w).alloc o)
theorem Box.drew {w : World} {k : Nat} {cs : Array Value} {T : TypeId} (h : Box w k cs T) : Box w.drew k cs T := h.keep (Ext.refl w).drew
theorem Box.below {w w' : World} {n k : Nat} {cs : Array Value} {T : TypeId} (h : Box w k cs T) (b : Below n w w') (hk : k < n) : Box w' k cs T := (b.block k hk).trans h
theorem Box.two {w : World} {k : Nat} {a b : Value} {T : TypeId} (h : Box w k #[a, b] T) :
    w.cell? ⟨k, 0, none⟩ = some a ∧ w.cell? ⟨k, 1, none⟩ = some b ∧ w.frozen? ⟨k, 0, none⟩ = false ∧ w.frozen? ⟨k, 1, none⟩ = false := box2 h
theorem Box.reads {w w1 : World} {k : Nat} {a b : Value} {T : TypeId} (h : Box w k #[a, b] T) (e : Ext w w1) :
    (∀ (d : Nat) (os : Array Obj), (grow (redrawn w1 d) os).cell? ⟨k, 0, none⟩ = some a) ∧ (∀ (d : Nat) (os : Array Obj), (grow (redrawn w1 d) os).cell? ⟨k, 1, none⟩ = some b) :=
  ⟨fun d os => (h.keep (e.regrown d os)).two.1, fun d os => (h.keep (e.regrown d os)).two.2.1⟩

theorem Box.set {w : World} {k : Nat} {cs : Array Value} {T : TypeId} (h : Box w k cs T) (j : Nat) (v : Value) : Box (w.setCell ⟨k, j, none⟩ v) k (cs.setIfInBounds j v) T := by
  unfold Box at h ⊢
  simp [World.setCell, Array.getElem?_modify, h]
theorem Box.put {w : World} {k : Nat} {cs : Array Value} {T : TypeId} (h : Box w k cs T) {g : Nat} (hg : k ≠ g) (j : Nat) (v : Value) : Box (w.setCell ⟨g, j, none⟩ v) k cs T :=
  (Below.heap_setCell w ⟨g, j, none⟩ v k hg).trans h
theorem Lst.put {w : World} {sa : Option Addr} {l : List Int} (h : Lst w sa l) {g j : Nat} {v : Value} (hg : ∀ b off, sa = some ⟨b, off, none⟩ → b ≠ g) : Lst (w.setCell ⟨g, j, none⟩ v) sa l := by
  rcases h with h | ⟨b, off, h1, h2, h3⟩
  · exact .inl h
  · have := hg b off h1
    exact .inr ⟨b, off, h1, by simpa using h2, fun i hi => by rw [World.cell?_setCell_other _ _ _ _ (by first | omega | (simp; done) | (simp; omega))]; exact h3 i hi⟩

theorem Row.put {base : Nat} {w : World} {sa : Option Addr} {cap : Nat} {l : List Int} (h : Row base w sa cap l) {g : Nat} (hg : g < base) (j : Nat) (v : Value) : Row base (w.setCell ⟨g, j, none⟩ v) sa cap l := by
  obtain ⟨h1, h2⟩ := h
  refine ⟨h1, ?_⟩
  rcases h2 with h2 | ⟨b, c, cur, h2, h3, h4, h5⟩
  · exact .inl h2
  · exact .inr ⟨b, c, cur, h2, h3, (Below.heap_setCell w ⟨g, j, none⟩ v b (show b ≠ g by omega)).trans h4, h5⟩
theorem Row.cap {base : Nat} {w : World} {sa : Option Addr} {cap : Nat} {l : List Int} (r : Row base w sa cap l) : l.length ≤ cap := by
  obtain ⟨h1, h2⟩ := r
  rcases h2 with ⟨h2, h3⟩ | ⟨g, c, cur, h2, h3, h4, h5, _⟩
  · omega
  · simp only [Value.slice.injEq] at h2; omega
theorem Row.ext {base : Nat} {w w' : World} {sa : Option Addr} {cap : Nat} {l : List Int} (h : Row base w sa cap l) (e : Ext w w') : Row base w' sa cap l := h.keep e

/-- two boxes, read in a region that makes memory -/
theorem held2_start {wk : World} {x y : Nat} {a b c d : Value} {T U : TypeId} (hx : Box wk x #[a, b] T) (hy : Box wk y #[c, d] U) :
    wk.drew.cell? ⟨x, 0, none⟩ = some a ∧ wk.drew.cell? ⟨x, 1, none⟩ = some b ∧ wk.drew.cell? ⟨y, 0, none⟩ = some c ∧ wk.drew.cell? ⟨y, 1, none⟩ = some d ∧ Ext wk wk.drew := by
  obtain ⟨h1, h2, _, _⟩ := hx.two
  obtain ⟨h3, h4, _, _⟩ := hy.two
  exact ⟨h1, h2, h3, h4, (Ext.refl _).drew⟩
theorem held2_next {wk w' w2 : World} {x y : Nat} {a b c d : Value} {T U : TypeId} (hx : Box wk x #[a, b] T) (hy : Box wk y #[c, d] U)
    (h : w'.cell? ⟨x, 0, none⟩ = some a ∧ w'.cell? ⟨x, 1, none⟩ = some b ∧ w'.cell? ⟨y, 0, none⟩ = some c ∧ w'.cell? ⟨y, 1, none⟩ = some d ∧ Ext wk w') (e : Ext w' w2) :
    w2.cell? ⟨x, 0, none⟩ = some a ∧ w2.cell? ⟨x, 1, none⟩ = some b ∧ w2.cell? ⟨y, 0, none⟩ = some c ∧ w2.cell? ⟨y, 1, none⟩ = some d ∧ Ext wk w2 := by
  have E := h.2.2.2.2.trans e
  obtain ⟨h1, h2, _, _⟩ := (hx.keep E).two
  obtain ⟨h3, h4, _, _⟩ := (hy.keep E).two
  exact ⟨h1, h2, h3, h4, E⟩

theorem Lst.ext {w w' : World} {sa : Option Addr} {l : List Int} (h : Lst w sa l) (e : Ext w w') : Lst w' sa l := h.keep e

theorem ne_len {a b : Nat} (h : a ≠ b) : ((a : Int) != (b : Int)) = true := by rw [bne_iff_ne]; omega
theorem eq_len {a b : Nat} (h : a = b) : ((a : Int) != (b : Int)) = false := by subst h; simp
theorem eq_len' {a b : Nat} (h : a = b) : ((a : Int) == (b : Int)) = true := by subst h; simp
theorem ne_len' {a b : Nat} (h : a ≠ b) : ((a : Int) == (b : Int)) = false := by rw [beq_eq_false_iff_ne]; omega

def inr (n lo hi : Int) : Bool := decide (lo ≤ n ∧ n ≤ hi)
theorem inr_yes {n lo hi : Int} (h1 : lo ≤ n) (h2 : n ≤ hi) : inr n lo hi = true := decide_eq_true ⟨h1, h2⟩
theorem inr_no {n lo hi : Int} (h : ¬ (lo ≤ n ∧ n ≤ hi)) : inr n lo hi = false := decide_eq_false h
theorem inr_iff {n lo hi : Int} : inr n lo hi = true ↔ lo ≤ n ∧ n ≤ hi := by unfold inr; simp

theorem implInr (n lo hi : Int) (w : World) : Calls Try.prog 37 #[.int .i64 n, .int .i64 lo, .int .i64 hi] w (Same (.bool (inr n lo hi)) w) := by
  by_cases h1 : lo ≤ n
  · by_cases h2 : n ≤ hi
    · have H := hide (inr_yes h1 h2)
      go_enter Try.func37, Try.ntmps37
      go_wp2
      go_ret
      exact Same.bool (by rw [H.out])
    · have H := hide (inr_no (fun h => h2 h.2) : inr n lo hi = false)
      have h2' : hi < n := by omega
      go_enter Try.func37, Try.ntmps37
      go_wp2
      go_ret
      exact Same.bool (by rw [H.out])
  · have H := hide (inr_no (fun h => h1 h.1) : inr n lo hi = false)
    have h1' : n < lo := by omega
    go_enter Try.func37, Try.ntmps37
    go_wp2
    go_ret
    exact Same.bool (by rw [H.out])
theorem specInr (n lo hi : Int) (w : World) : Calls Try.prog 39 #[.int .i64 n, .int .i64 lo, .int .i64 hi] w (Same (.bool (inr n lo hi)) w) := by
  by_cases h1 : lo ≤ n
  · by_cases h2 : n ≤ hi
    · have H := hide (inr_yes h1 h2)
      go_enter Try.func39, Try.ntmps39
      go_wp2
      go_ret
      exact Same.bool (by rw [H.out])
    · have H := hide (inr_no (fun h => h2 h.2) : inr n lo hi = false)
      have h2' : hi < n := by omega
      go_enter Try.func39, Try.ntmps39
      go_wp2
      go_ret
      exact Same.bool (by rw [H.out])
  · have H := hide (inr_no (fun h => h1 h.1) : inr n lo hi = false)
    have h1' : n < lo := by omega
    go_enter Try.func39, Try.ntmps39
    go_wp2
    go_ret
    exact Same.bool (by rw [H.out])

theorem ints_open {H : Type} {enc : TypeId × Value → H} {P : Program} {w : World} {base : Nat} {spare : Nat → Bool} {held : Bool} {t e : TypeId} {fuel : Nat} {cs : List Value} {x : DataW H × List MemPlace} (ht : P.underlying t = some (.slice e)) (he : P.underlying e = some (.int .i64)) (hc : P.cellsOf e = 1)
    (h : DataW.trod enc P w base spare held fuel t cs = some x) : ∃ (sa : Option Addr) (cap : Nat) (l : List Int), cs = [.slice sa l.length cap] ∧ Lst w sa l ∧ l.length ≤ maxLen := by
  rcases open_ints ht he hc h with ⟨rfl, _⟩ | ⟨a, len, cap, zs, rfl, _, hl, hm, hz, _, hcell, _⟩
  · exact ⟨none, 0, [], rfl, .inl rfl, by unfold maxLen; simp⟩
  · have hle : len ≤ zs.length := by rw [hz]; split <;> omega
    have hlen : (zs.take len).length = len := by simp; omega
    refine ⟨some a, cap, zs.take len, by rw [hlen], ?_, by rw [hlen]; omega⟩
    by_cases h0 : len = 0
    · left; rw [h0]; rfl
    · obtain ⟨b, off, spot⟩ := a
      have hc0 := hcell 0 (by omega)
      have hspot : spot = none := by simpa [Addr.add] using World.cell?_spot hc0
      subst hspot
      have ea : ∀ i, (⟨b, off, none⟩ : Addr).add i = ⟨b, off + i, none⟩ := by
        intro i; unfold Addr.add; split <;> simp_all
      refine .inr ⟨b, off, rfl, ?_, fun i hi => ?_⟩
      · have := hcell 0 (by omega); rw [ea] at this; exact World.block_lt_of_cell? _ _ this
      · rw [hlen] at hi
        have := hcell i (by omega)
        rw [ea] at this
        rw [this, List.getD_eq_getElem?_getD, List.getD_eq_getElem?_getD, List.getElem?_take_of_lt hi]
end Go.Proofs.Ytgmhodmgbhpdaad
