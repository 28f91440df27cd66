/- The generator's small functions: 'one' answers one of a list's numbers; 'newReader' makes a reader; amounts and rates. -/
import Derived.Test.YtgmhodmgbhpdaacDraw1
namespace Go.Proofs.Ytgmhodmgbhpdaac
open Go.ChangeShapes Go.WideShapes Go.ChangeAt Go.RowKit Go.Joins
set_option linter.unusedVariables false

def PickPos (B g p : Nat) (n : Int) (w : World) (e : Ending) (w' : World) : Prop :=
  ∃ v : Int, e = .returned (.int .i64 v) ∧ 0 ≤ v ∧ v < n ∧ Rdr B w' g (p + 1) ∧ But g w w' ∧ w'.heap.size = w.heap.size
theorem pick_pos (B g p : Nat) (n : Int) (w : World) (h : Rdr B w g p) (hp : p < 1000000) (hn : 1 ≤ n) :
    Calls Try.prog 79 #[.pointer (some ⟨g, 0, none⟩), .int .i64 n] w (PickPos B g p n w) :=
  (pick_any B g p n w h hp).mono fun e w' ⟨v, he, h0, h1, hr⟩ => ⟨v, he, h0, by omega, hr⟩

/-- what 'one' answers: a number of the range -/
def OneRes (B g p : Nat) (lo hi : Int) (w : World) (e : Ending) (w' : World) : Prop :=
  ∃ v : Int, e = .returned (.int .i64 v) ∧ lo ≤ v ∧ v ≤ hi ∧ Rdr B w' g (p + 1) ∧ But g w w' ∧ w'.heap.size = w.heap.size

theorem one_any (B g p k len cap : Nat) (lo hi : Int) (w : World) (h : Rdr B w g p) (hp : p < 1000000) (hk : k ≠ g) (hk2 : k < w.heap.size) (h0 : 0 < len) (hm : len ≤ 1000000)
    (hz : ∀ i, i < len → ∃ z : Int, w.cell? ⟨k, i, none⟩ = some (.int .i64 z) ∧ lo ≤ z ∧ z ≤ hi) :
    Calls Try.prog 78 #[.pointer (some ⟨g, 0, none⟩), .slice (some ⟨k, 0, none⟩) len cap] w (OneRes B g p lo hi w) := by
  go_enter Try.func78, Try.ntmps78
  go_wp2_with fail
  refine (pick_pos B g p _ w h hp (by omega)).mono ?_
  rintro e w1 ⟨v, rfl, hv0, hv1, hr, hb, hs⟩
  obtain ⟨j, rfl⟩ := Int.eq_ofNat_of_zero_le hv0
  obtain ⟨z, hz1, hz2, hz3⟩ := hz j (by omega)
  have hc : w1.cell? ⟨k, j, none⟩ = some (.int .i64 z) := (hb.cell k j hk2 hk).trans hz1
  clear hz1
  go_wp2
  go_ret
  exact ⟨z, rfl, hz2, hz3, hr, hb, hs⟩

theorem one_new (B g p : Nat) (zs : List Int) (lo hi : Int) (T : TypeId) (w : World) (h : Rdr B w g p) (hp : p < 1000000) (h0 : 0 < zs.length) (hm : zs.length ≤ 1000000) (hz : ∀ z ∈ zs, lo ≤ z ∧ z ≤ hi) :
    Calls Try.prog 78 #[.pointer (some ⟨g, 0, none⟩), .slice (some ⟨w.heap.size, 0, none⟩) zs.length zs.length] (w.alloc (.cells (zs.map (Value.int .i64)).toArray T)) (OneRes B g p lo hi (w.alloc (.cells (zs.map (Value.int .i64)).toArray T))) := by
  refine one_any B g p w.heap.size zs.length zs.length lo hi _ (h.keep ((Below.refl _ _).alloc (Nat.le_refl _) _)) hp (by have := h.2.1; omega) (by simp) h0 hm fun i hi' => ?_
  refine ⟨zs[i], ?_, hz _ (List.getElem_mem _)⟩
  rw [World.cell?_alloc_new]; simp [hi']

/-- a code that came in: empty, or bytes at an address -/
def Code (w : World) (sa : Option Addr) (len cap : Nat) : Prop :=
  len = 0 ∨ ∃ b off, sa = some ⟨b, off, none⟩ ∧ len ≤ cap ∧ cap ≤ maxLen ∧ ∀ i, i < len → ∃ z : Int, w.cell? ⟨b, off + i, none⟩ = some (.int .u8 z) ∧ 0 ≤ z ∧ z ≤ 255

theorem code_nil (w : World) : Code w none 0 0 ∧ 0 ≤ maxLen := ⟨.inl rfl, by unfold maxLen; omega⟩
theorem code_some {w : World} {x : Addr} {len cap : Nat} {zs : List Int} (hl : len ≤ cap) (hm : cap ≤ maxLen) (hz : zs.length = cap) (hcell : ∀ i, i < zs.length → w.cell? (x.add i) = some (.int .u8 (zs.getD i 0))) (hwz : ∀ n ∈ zs, (Lit.int .u8 n).wf = true) :
    Code w (some x) len cap ∧ len ≤ maxLen := by
  refine ⟨?_, Nat.le_trans hl hm⟩
  by_cases h0 : len = 0
  · exact .inl h0
  · obtain ⟨b, off, spot⟩ := x
    have hc := hcell 0 (by omega)
    have hspot : spot = none := by simpa [Addr.add] using World.cell?_spot hc
    subst hspot
    have ea : ∀ i, (⟨b, off, none⟩ : Addr).add i = ⟨b, off + i, none⟩ := by
      intro i; unfold Addr.add; split <;> simp_all
    refine .inr ⟨b, off, rfl, hl, hm, fun i hi => ⟨zs.getD i 0, (ea i) ▸ hcell i (by omega), ?_⟩⟩
    have := hwz (zs.getD i 0) (by rw [List.getD_eq_getElem?_getD, List.getElem?_eq_getElem (by omega)]; exact List.getElem_mem _)
    simpa [Lit.wf, IntKind.min, IntKind.max, IntKind.signed, IntKind.bits] using this

theorem Code.keep {w w' : World} {sa : Option Addr} {len cap : Nat} (h : Code w sa len cap) (hb : Below w.heap.size w w') : Code w' sa len cap := by
  rcases h with h | ⟨b, off, h1, h2, h3, h4⟩
  · exact .inl h
  · refine .inr ⟨b, off, h1, h2, h3, fun i hi => ?_⟩
    obtain ⟨z, hz, hz'⟩ := h4 i hi
    exact ⟨z, (hb.cell (p := ⟨b, off + i, none⟩) (World.block_lt_of_cell? _ _ hz)).trans hz, hz'⟩

def NewRes (B : Nat) (w : World) (e : Ending) (w' : World) : Prop :=
  e = .returned (.pointer (some ⟨w.heap.size, 0, none⟩)) ∧ Rdr B w' w.heap.size 0 ∧ Below w.heap.size w w' ∧ w'.heap.size = w.heap.size + 1

theorem newReader_any (sa : Option Addr) (len cap : Nat) (w : World) (h : Code w sa len cap) (hl : len ≤ maxLen) :
    Calls Try.prog 60 #[.slice sa len cap] w (NewRes w.heap.size w) := by
  unfold maxLen at hl
  have key : ∀ n, Bytes w.heap.size w sa n → NewRes w.heap.size w (.returned (.pointer (some ⟨w.heap.size, 0, none⟩))) (w.alloc (.cells #[.slice sa n cap, .int .i64 0] 85)) := by
    intro n hn
    refine ⟨rfl, ⟨Nat.le_refl _, by simp, by simp, by simp, sa, n, cap, by simp, ?_⟩, (Below.refl _ _).alloc (Nat.le_refl _) _, by simp⟩
    exact hn.but (But.of_below (g := w.heap.size) ((Below.refl _ _).alloc (Nat.le_refl _) _)) (Nat.le_refl _) (Nat.le_refl _)
  by_cases hbig : 2000 < len
  · rcases h with h | ⟨b, off, rfl, h1, h2, h3⟩
    · omega
    · unfold maxLen at h2
      have hk := key 2000 (.inr ⟨b, off, rfl, by obtain ⟨z, hz, _⟩ := h3 0 (by omega); exact World.block_lt_of_cell? _ _ hz, Nat.le_refl _, fun i hi => h3 i (by omega)⟩)
      clear h3 key
      go_enter Try.func60, Try.ntmps60
      go_wp2
      go_ret
      exact hk
  · have hk := key len (by
      rcases h with h | ⟨b, off, rfl, h1, h2, h3⟩
      · exact .inl h
      · by_cases h0 : len = 0
        · exact .inl h0
        · exact .inr ⟨b, off, rfl, by obtain ⟨z, hz, _⟩ := h3 0 (by omega); exact World.block_lt_of_cell? _ _ hz, by omega, h3⟩)
    clear h key
    go_enter Try.func60, Try.ntmps60
    go_wp2
    go_ret
    exact hk

end Go.Proofs.Ytgmhodmgbhpdaac
