/- The generator's bodies, members and ballots: contracts over the reader. -/
import Derived.Test.YtjdfdikifiljjabDraw2
import Derived.Test.YtjdfdikifiljjabApp
import Derived.Test.YtjdfdikifiljjabBody1
import Derived.Deep.RegionHeld3
namespace Go.Proofs.Ytjdfdikifiljjab
open Go.ChangeShapes Go.WideShapes Go.ChangeAt Go.RowKit Go.Joins
set_option linter.unusedVariables false

theorem Rdr.drew {B g p : Nat} {w : World} (h : Rdr B w g p) : Rdr B w.drew g p := h.keep (Below.refl _ w).drew
theorem Rdr.alloc {B g p : Nat} {w : World} (h : Rdr B w g p) (o : Obj) : Rdr B (w.alloc o) g p := h.keep ((Below.refl _ w).alloc (Nat.le_refl _) o)
theorem Rdr.lt {B g p : Nat} {w : World} (h : Rdr B w g p) : g < w.heap.size := h.2.1
theorem Rdr.low {B g p : Nat} {w : World} (h : Rdr B w g p) : B ≤ g := h.1
theorem But.drew {g : Nat} {a w : World} (h : But g a w) : But g a w.drew := h.trans (But.of_below (Below.refl _ w).drew)
theorem But.alloc {g : Nat} {a w : World} (h : But g a w) (o : Obj) : But g a (w.alloc o) := h.trans (But.of_below ((Below.refl _ w).alloc (Nat.le_refl _) o))
theorem But.ext {g : Nat} {a w w' : World} (h : But g a w) (e : Ext w w') : But g a w' := h.trans (But.of_below e)
theorem But.below {g n : Nat} {a b c : World} (h : But g a b) (k : Below n b c) (hn : a.heap.size ≤ n) : But g a c :=
  ⟨k.os.trans h.os, k.tape.trans h.tape, k.output.trans h.output, Nat.le_trans h.size k.size, fun j hj hg => (k.block j (by omega)).trans (h.block j hj hg)⟩
theorem Rdr.below {B g p n : Nat} {w w' : World} (h : Rdr B w g p) (k : Below n w w') (hn : g < n) : Rdr B w' g p := by
  obtain ⟨h1, h2, h3, h4, sa, len, cap, h5, h6⟩ := h
  refine ⟨h1, by have := k.size; omega, (k.frozen (p := ⟨g, 1, none⟩) hn).trans h3, (k.cell (p := ⟨g, 1, none⟩) hn).trans h4, sa, len, cap, (k.cell (p := ⟨g, 0, none⟩) hn).trans h5, ?_⟩
  rcases h6 with h | ⟨b, off, e1, e2, e3, e4⟩
  · exact .inl h
  · refine .inr ⟨b, off, e1, e2, e3, fun i hi => ?_⟩
    obtain ⟨z, hz, hz'⟩ := e4 i hi
    exact ⟨z, (k.cell (p := ⟨b, off + i, none⟩) (show b < n by omega)).trans hz, hz'⟩
theorem Box.but {g k : Nat} {a b : World} {cs : Array Value} {T : TypeId} (h : Box a k cs T) (e : But g a b) (hg : k ≠ g) : Box b k cs T := (e.block k h.lt hg).trans h
theorem Row.but {base g : Nat} {a b : World} {sa : Option Addr} {cap : Nat} {l : List Int} (h : Row base a sa cap l) (e : But g a b) (hg : g < base) : Row base b sa cap l := by
  obtain ⟨h1, h2⟩ := h
  refine ⟨h1, ?_⟩
  rcases h2 with h2 | ⟨x, c, cur, h2, h3, h4, h5⟩
  · exact .inl h2
  · exact .inr ⟨x, c, cur, h2, h3, (e.block x (size_of_heap h4) (by omega)).trans h4, h5⟩
/-- a store into a list of the call's own -/
theorem Row.store {base : Nat} {w : World} {b cap : Nat} {l : List Int} (h : Row base w (some ⟨b, 0, none⟩) cap l) (i : Nat) (x : Int) : Row base (w.setCell ⟨b, i, none⟩ (.int .i64 x)) (some ⟨b, 0, none⟩) cap (l.set i x) := by
  obtain ⟨h1, h2⟩ := h
  rcases h2 with ⟨h2, _⟩ | ⟨g, c, cur, h2, h3, h4, h5, h6, h7, h8⟩
  · cases h2
  · simp only [Value.slice.injEq, Option.some.injEq, Addr.mk.injEq] at h2
    obtain ⟨⟨rfl, _⟩, _, rfl⟩ := h2
    refine ⟨by simp, .inr ⟨b, cap, cur.setIfInBounds i (.int .i64 x), by rw [List.length_set], h3, ?_, by rw [List.length_set]; exact h5, h6, by simpa using h7, ?_⟩⟩
    · simp [World.setCell, Array.getElem?_modify, h4]
    · rw [List.length_set, List.map_set, ← h8, Array.toList_setIfInBounds, List.take_set]
theorem Row.spot {base : Nat} {w : World} {sa : Option Addr} {cap : Nat} {l : List Int} (h : Row base w sa cap l) (h0 : 0 < l.length) : ∃ b, sa = some ⟨b, 0, none⟩ ∧ base ≤ b ∧ b < w.heap.size ∧ (∀ i, w.frozen? ⟨b, i, none⟩ = false) ∧ ∀ i, i < l.length → w.cell? ⟨b, i, none⟩ = some (.int .i64 (l.getD i 0)) := by
  obtain ⟨h1, h2⟩ := h
  rcases h2 with ⟨_, h3⟩ | ⟨g, c, cur, h2, h3, h4, h5, h6, h7, h8⟩
  · omega
  · simp only [Value.slice.injEq] at h2
    obtain ⟨rfl, _, rfl⟩ := h2
    refine ⟨g, rfl, h3, size_of_heap h4, fun i => unfrozen_of_block h4 i, fun i hi => ?_⟩
    rw [cell_of_block h4 i]
    have e : (cur.toList.take (l.length * 1))[i]? = (l.map (Value.int .i64))[i]? := by rw [h8]
    rw [List.getElem?_take_of_lt (by omega), List.getElem?_map, List.getElem?_eq_getElem hi] at e
    rw [← Array.getElem?_toList, e, List.getD_eq_getElem?_getD, List.getElem?_eq_getElem hi]; rfl
theorem one_at (B g p : Nat) (zs : List Int) (lo hi : Int) (T : TypeId) (k n : Nat) (w : World) (hk : k = w.heap.size) (hn : zs.length = n) (h : Rdr B w g p) (hp : p < 1000000) (h0 : 0 < zs.length) (hm : zs.length ≤ 1000000) (hz : ∀ z ∈ zs, lo ≤ z ∧ z ≤ hi) :
    Calls Try.prog 88 #[.pointer (some ⟨g, 0, none⟩), .slice (some ⟨k, 0, none⟩) n n] (w.alloc (.cells (zs.map (Value.int .i64)).toArray T)) (OneRes B g p lo hi (w.alloc (.cells (zs.map (Value.int .i64)).toArray T))) := by
  subst hk hn; exact one_new B g p zs lo hi T w h hp h0 hm hz

/-- a body that was drawn -/
def BodyOut (B g p k : Nat) (lo hi : Int) (w : World) (e : Ending) (w' : World) : Prop :=
  ∃ (sa : Option Addr) (cap : Nat) (l : List Int) (need : Int), e = .returned (.agg #[.slice sa l.length cap, .int .i64 need]) ∧ Row w.heap.size w' sa cap l ∧ 1 ≤ l.length ∧ l.length ≤ 9 ∧ (∀ x ∈ l, lo ≤ x ∧ x ≤ hi) ∧ -100000 ≤ need ∧ need ≤ 100000 ∧ (∃ q, q ≤ p + k ∧ Rdr B w' g q) ∧ But g w w'

theorem len_snoc'' (o : List Int) (x : Int) : o.length + 1 = (o ++ [x]).length := by simp

set_option maxHeartbeats 2000000 in
theorem someBody_any (B g p : Nat) (w : World) (hr : Rdr B w g p) (hp : p < 10000) :
    Calls Try.prog 102 #[.pointer (some ⟨g, 0, none⟩)] w (BodyOut B g p 20 0 100 w) := by
  have hlt := hr.lt
  go_enter Try.func102, Try.ntmps102
  have hr0 := (hr.alloc (.cells #[.slice none 0 0, .int .i64 0] 28)).alloc (.cells #[.slice none 0 0, .int .i64 0] 28)
  have hX0 : Box ((w.alloc (.cells #[.slice none 0 0, .int .i64 0] 28)).alloc (.cells #[.slice none 0 0, .int .i64 0] 28)) (w.heap.size + 1) #[.slice none 0 0, .int .i64 0] 28 := Box.newAt _ (w.heap.size + 1) _ _ (by simp)
  have hE0 : Ext w ((w.alloc (.cells #[.slice none 0 0, .int .i64 0] 28)).alloc (.cells #[.slice none 0 0, .int .i64 0] 28)) := ((Ext.refl w).alloc _).alloc _
  go_wp2_with fail
  refine (one_at B g p [4, 3, 5, 2, 1, 6, 8] 1 8 _ _ _ _ (by simp) rfl hr0 (by omega) (by simp) (by simp) (by simp)).mono ?_
  rintro e w1 ⟨n, rfl, n0, n1, hr1, hb1, hs1⟩
  obtain ⟨N, rfl⟩ := Int.eq_ofNat_of_zero_le (show 0 ≤ n by omega)
  have hX1 := (hX0.push _).but hb1 (by omega)
  have hY1 := (((Box.new w #[.slice none 0 0, .int .i64 0] 28).push (.cells #[.slice none 0 0, .int .i64 0] 28)).push _).but hb1 (by omega)
  have hB1 := (But.of_below (g := g) hE0).trans ((But.refl g _).alloc _ |>.trans hb1)
  clear hr0 hX0 hE0 hb1 hs1
  go_wp2
  go_loopw [4] (fun n wr => ∃ (k q : Nat) (s2 : Option Addr) (c2 : Nat) (o : List Int), n = .int .i64 k ∧ o.length + k = N ∧ q = p + 1 + 2 * o.length ∧ Box wr (w.heap.size + 1) #[.slice s2 o.length c2, .int .i64 0] 28 ∧ Row (w.heap.size + 2) wr s2 c2 o ∧ Hid (∀ x ∈ o, 0 ≤ x ∧ x ≤ 100) ∧ Rdr B wr g q ∧ But g w wr ∧ Box wr w.heap.size #[.slice none 0 0, .int .i64 0] 28) (fun n _ => (intOf n).toNat)
  case atStart => exact ⟨N, p + 1, none, 0, [], rfl, by simp, by simp, hX1, Row.nil _ _, (show ∀ x ∈ ([] : List Int), _ from fun x hx => by simp at hx), hr1, hB1, hY1⟩
  case round =>
    clear hX1 hr1 hB1 hY1
    obtain ⟨k, q, s2, c2, o, rfl, hk, hq, hX, hR, HO, hr1, hB1, hY⟩ := hrel
    by_cases hlt2 : 0 < k
    · have hr := hr1
      clear hr1
      go_wp2
      refine wp_region_held_drew (S := (fun _ => True)) (by kernel_rfl) (by first | exact trivial) (fun hHeld => ?_)
      refine wpAnyH_take (i := 0) (oi := _) (v := ?_) rfl (by kernel_rfl) (by kernel_rfl) (by kernel_rfl) (fun _ _ _ h => h) (Or.inl ⟨by rfl, ?_⟩) (by assumption) ?_
      rotate_left
      · (intro w hSw; (try dsimp only at hSw); go_simp; (try with_reducible rfl))
      (try simp only [List.getElem_toArray, List.getElem_cons_zero, Act.put, List.setIfInBounds_toArray, List.set_cons_zero, List.set_cons_succ])
      refine wpAnyH_take (i := 2) (oi := _) (v := ?_) rfl (by kernel_rfl) (by kernel_rfl) (by kernel_rfl) (fun _ _ _ h => h) (Or.inl ⟨by rfl, ?_⟩) (by assumption) ?_
      rotate_left
      · (intro w hSw; (try dsimp only at hSw); go_simp; (try with_reducible rfl))
      (try simp only [List.getElem_toArray, List.getElem_cons_succ, List.getElem_cons_zero, Act.put, List.setIfInBounds_toArray, List.set_cons_zero, List.set_cons_succ])
      refine wpAnyH_take (i := 3) (oi := _) (v := ?_) rfl (by kernel_rfl) (by kernel_rfl) (by kernel_rfl) (fun _ _ _ h => h) (Or.inl ⟨by rfl, ?_⟩) (by assumption) ?_
      rotate_left
      · (intro w hSw; (try dsimp only at hSw); go_simp; (try with_reducible rfl))
      (try simp only [List.getElem_toArray, List.getElem_cons_succ, List.getElem_cons_zero, Act.put, List.setIfInBounds_toArray, List.set_cons_zero, List.set_cons_succ])
      refine wpAnyH_ready (rs := [1, 4]) (by kernel_rfl) (by simp) ?_
      refine AllReadyH.cons (o := _) rfl (fun K hK => ?_) ?_
      · have cl := (hX.drew).two.1
        go_simp
        refine hK.out _ _ trivial (fun hHeld => ?_); clear hK K
        (try simp only [List.getElem_toArray, List.getElem_cons_succ, List.getElem_cons_zero, Act.put, List.setIfInBounds_toArray, List.set_cons_zero, List.set_cons_succ])
        clear cl
        refine wpAnyH_ready (rs := [4]) (by kernel_rfl) (by simp) ?_
        refine AllReadyH.cons (o := _) rfl (fun K hK => ?_) AllReadyH.nil
        go_simp
        refine (pick_pos B g q 10 _ hr.drew (by omega) (by omega)).mono ?_; rintro e w2 ⟨v, rfl, v0, v1, hr2, hb2, hs2⟩
        refine hK.out _ _ trivial (fun hHeld => ?_); clear hK K
        (try simp only [List.getElem_toArray, List.getElem_cons_succ, List.getElem_cons_zero, Act.put, List.setIfInBounds_toArray, List.set_cons_zero, List.set_cons_succ])
        clear hs2
        have hw : IntKind.i64.wrap (1 + v) = 1 + v := IntWalk.i64_in _ (by omega)
        refine wpAnyH_take (i := 5) (oi := _) (v := ?_) rfl (by kernel_rfl) (by kernel_rfl) (by kernel_rfl) (fun _ _ _ h => h) (Or.inl ⟨by rfl, ?_⟩) (by assumption) ?_
        rotate_left
        · (intro w hSw; (try dsimp only at hSw); go_simp; (try with_reducible rfl))
        (try simp only [List.getElem_toArray, List.getElem_cons_succ, List.getElem_cons_zero, Act.put, List.setIfInBounds_toArray, List.set_cons_zero, List.set_cons_succ])
        (try simp only [hw])
        refine wpAnyH_ready (rs := [6]) (by kernel_rfl) (by simp) ?_
        refine AllReadyH.cons (o := _) rfl (fun K hK => ?_) AllReadyH.nil
        go_simp
        refine hK.out _ _ trivial (fun hHeld => ?_); clear hK K
        (try simp only [List.getElem_toArray, List.getElem_cons_succ, List.getElem_cons_zero, Act.put, List.setIfInBounds_toArray, List.set_cons_zero, List.set_cons_succ])
        refine wpAnyH_ready (rs := [7]) (by kernel_rfl) (by simp) ?_
        refine AllReadyH.cons (o := _) rfl (fun K hK => ?_) AllReadyH.nil
        go_simp
        refine (one_new B g (q + 1) [1, 2, 3, 5, 0, 1 + v, 100] 0 100 _ w2 hr2 (by omega) (by simp) (by simp) (by simp; omega)).mono ?_; rintro e w3 ⟨x, rfl, x0, x1, hr3, hb3, hs3⟩
        refine hK.out _ _ trivial (fun hHeld => ?_); clear hK K
        (try simp only [List.getElem_toArray, List.getElem_cons_succ, List.getElem_cons_zero, Act.put, List.setIfInBounds_toArray, List.set_cons_zero, List.set_cons_succ])
        clear hs3
        have hX3 := ((hX.drew.but hb2 (by omega)).push _).but hb3 (by omega)
        have hR3 : Row (w.heap.size + 2) w3 s2 c2 o := (((hR.ext (Ext.refl _).drew).but hb2 (by omega)).ext ((Ext.refl _).alloc _)).but hb3 (by omega)
        have hS3 : w.heap.size + 2 ≤ w3.heap.size := by have := hX.lt; have := hb2.size; have := hb3.size; simp at *; omega
        refine wpAnyH_ready (rs := [8]) (by kernel_rfl) (by simp) ?_
        refine AllReadyH.cons (o := _) rfl (fun K hK => ?_) AllReadyH.nil
        go_simp
        refine hK.out _ _ trivial (fun hHeld => ?_); clear hK K
        (try simp only [List.getElem_toArray, List.getElem_cons_succ, List.getElem_cons_zero, Act.put, List.setIfInBounds_toArray, List.set_cons_zero, List.set_cons_succ])
        refine wpAnyH_ready (rs := [9]) (by kernel_rfl) (by simp) ?_
        refine AllReadyH.cons (o := _) rfl (fun K hK => ?_) AllReadyH.nil
        refine step_append_int (s := .tmp 15) (x := .tmp 22) (v := x) (by rfl) (by rfl) (by rfl) (by rfl) (Box.new _ _ _) (hR3.ext ((Ext.refl _).alloc _)) (by omega) (by simp; omega) ?_; intro g4 c4 w4 R4 hb4
        refine hK.out _ _ (trivial) (fun hHeld => ?_); clear hK K
        (try simp only [List.getElem_toArray, List.getElem_cons_succ, List.getElem_cons_zero, Act.put, List.setIfInBounds_toArray, List.set_cons_zero, List.set_cons_succ])
        refine wpAnyH_take (i := 10) (oi := _) (v := ?_) rfl (by kernel_rfl) (by kernel_rfl) (by kernel_rfl) (fun _ _ _ h => h) (Or.inl ⟨by rfl, ?_⟩) (by assumption) ?_
        rotate_left
        · (intro w hSw; (try dsimp only at hSw); go_simp; (try with_reducible rfl))
        (try simp only [List.getElem_toArray, List.getElem_cons_succ, List.getElem_cons_zero, Act.put, List.setIfInBounds_toArray, List.set_cons_zero, List.set_cons_succ])
        have hX4 := (hX3.push _).below hb4 (by omega)
        obtain ⟨d0, d1, f0, f1⟩ := hX4.two
        refine wpAnyH_ready (rs := [11]) (by kernel_rfl) (by simp) ?_
        refine AllReadyH.cons (o := _) rfl (fun K hK => ?_) AllReadyH.nil
        go_simp
        refine hK.out _ _ (trivial) (fun hHeld => ?_); clear hK K
        (try simp only [List.getElem_toArray, List.getElem_cons_succ, List.getElem_cons_zero, Act.put, List.setIfInBounds_toArray, List.set_cons_zero, List.set_cons_succ])
        refine wpAnyH_done (by kernel_rfl) ?_ _
        have HO2 := hide (show ∀ y ∈ o ++ [x], 0 ≤ y ∧ y ≤ 100 from fun y hy => by
          rw [List.mem_append, List.mem_singleton] at hy
          rcases hy with hy | rfl
          · exact HO.out y hy
          · omega)
        have hB4 : But g w w4 := ((((hB1.drew.trans hb2).alloc _).trans hb3).alloc _).below hb4 (by omega)
        have hY4 : Box w4 w.heap.size _ _ := ((((hY.drew.but hb2 (by omega)).push _).but hb3 (by omega)).push _).below hb4 (by omega)
        have hr4 : Rdr B w4 g (q + 1 + 1) := (hr3.alloc _).below hb4 (by omega)
        clear d0 d1 f0 f1
        go_wp2
        go_roundw
        case rel => exact ⟨k - 1, q + 2, some ⟨g4, 0, none⟩, c4, o ++ [x], by go_num, by simp; omega, by simp; omega, (by rw [← len_snoc'' o x]; exact hX4.set 0 _), R4.put (by omega) _ _, HO2, hr4.put _ _ _ (by omega) (by have := hr.low; omega), hB4.put _ _ _ (by omega), hY4.put (by omega) _ _⟩
        case measure => simp [intOf]; omega
      refine AllReadyH.cons (o := _) rfl (fun K hK => ?_) AllReadyH.nil
      go_simp
      refine (pick_pos B g q 10 _ hr.drew (by omega) (by omega)).mono ?_; rintro e w2 ⟨v, rfl, v0, v1, hr2, hb2, hs2⟩
      refine hK.out _ _ trivial (fun hHeld => ?_); clear hK K
      (try simp only [List.getElem_toArray, List.getElem_cons_succ, List.getElem_cons_zero, Act.put, List.setIfInBounds_toArray, List.set_cons_zero, List.set_cons_succ])
      clear hs2
      have hw : IntKind.i64.wrap (1 + v) = 1 + v := IntWalk.i64_in _ (by omega)
      refine wpAnyH_take (i := 5) (oi := _) (v := ?_) rfl (by kernel_rfl) (by kernel_rfl) (by kernel_rfl) (fun _ _ _ h => h) (Or.inl ⟨by rfl, ?_⟩) (by assumption) ?_
      rotate_left
      · (intro w hSw; (try dsimp only at hSw); go_simp; (try with_reducible rfl))
      (try simp only [List.getElem_toArray, List.getElem_cons_succ, List.getElem_cons_zero, Act.put, List.setIfInBounds_toArray, List.set_cons_zero, List.set_cons_succ])
      (try simp only [hw])
      refine wpAnyH_ready (rs := [1, 6]) (by kernel_rfl) (by simp) ?_
      refine AllReadyH.cons (o := _) rfl (fun K hK => ?_) ?_
      · have cl := ((hX.drew.but hb2 (by omega))).two.1
        go_simp
        refine hK.out _ _ trivial (fun hHeld => ?_); clear hK K
        (try simp only [List.getElem_toArray, List.getElem_cons_succ, List.getElem_cons_zero, Act.put, List.setIfInBounds_toArray, List.set_cons_zero, List.set_cons_succ])
        clear cl
        refine wpAnyH_ready (rs := [6]) (by kernel_rfl) (by simp) ?_
        refine AllReadyH.cons (o := _) rfl (fun K hK => ?_) AllReadyH.nil
        go_simp
        refine hK.out _ _ trivial (fun hHeld => ?_); clear hK K
        (try simp only [List.getElem_toArray, List.getElem_cons_succ, List.getElem_cons_zero, Act.put, List.setIfInBounds_toArray, List.set_cons_zero, List.set_cons_succ])
        refine wpAnyH_ready (rs := [7]) (by kernel_rfl) (by simp) ?_
        refine AllReadyH.cons (o := _) rfl (fun K hK => ?_) AllReadyH.nil
        go_simp
        refine (one_new B g (q + 1) [1, 2, 3, 5, 0, 1 + v, 100] 0 100 _ w2 hr2 (by omega) (by simp) (by simp) (by simp; omega)).mono ?_; rintro e w3 ⟨x, rfl, x0, x1, hr3, hb3, hs3⟩
        refine hK.out _ _ trivial (fun hHeld => ?_); clear hK K
        (try simp only [List.getElem_toArray, List.getElem_cons_succ, List.getElem_cons_zero, Act.put, List.setIfInBounds_toArray, List.set_cons_zero, List.set_cons_succ])
        clear hs3
        have hX3 := ((hX.drew.but hb2 (by omega)).push _).but hb3 (by omega)
        have hR3 : Row (w.heap.size + 2) w3 s2 c2 o := (((hR.ext (Ext.refl _).drew).but hb2 (by omega)).ext ((Ext.refl _).alloc _)).but hb3 (by omega)
        have hS3 : w.heap.size + 2 ≤ w3.heap.size := by have := hX.lt; have := hb2.size; have := hb3.size; simp at *; omega
        refine wpAnyH_ready (rs := [8]) (by kernel_rfl) (by simp) ?_
        refine AllReadyH.cons (o := _) rfl (fun K hK => ?_) AllReadyH.nil
        go_simp
        refine hK.out _ _ trivial (fun hHeld => ?_); clear hK K
        (try simp only [List.getElem_toArray, List.getElem_cons_succ, List.getElem_cons_zero, Act.put, List.setIfInBounds_toArray, List.set_cons_zero, List.set_cons_succ])
        refine wpAnyH_ready (rs := [9]) (by kernel_rfl) (by simp) ?_
        refine AllReadyH.cons (o := _) rfl (fun K hK => ?_) AllReadyH.nil
        refine step_append_int (s := .tmp 15) (x := .tmp 22) (v := x) (by rfl) (by rfl) (by rfl) (by rfl) (Box.new _ _ _) (hR3.ext ((Ext.refl _).alloc _)) (by omega) (by simp; omega) ?_; intro g4 c4 w4 R4 hb4
        refine hK.out _ _ (trivial) (fun hHeld => ?_); clear hK K
        (try simp only [List.getElem_toArray, List.getElem_cons_succ, List.getElem_cons_zero, Act.put, List.setIfInBounds_toArray, List.set_cons_zero, List.set_cons_succ])
        refine wpAnyH_take (i := 10) (oi := _) (v := ?_) rfl (by kernel_rfl) (by kernel_rfl) (by kernel_rfl) (fun _ _ _ h => h) (Or.inl ⟨by rfl, ?_⟩) (by assumption) ?_
        rotate_left
        · (intro w hSw; (try dsimp only at hSw); go_simp; (try with_reducible rfl))
        (try simp only [List.getElem_toArray, List.getElem_cons_succ, List.getElem_cons_zero, Act.put, List.setIfInBounds_toArray, List.set_cons_zero, List.set_cons_succ])
        have hX4 := (hX3.push _).below hb4 (by omega)
        obtain ⟨d0, d1, f0, f1⟩ := hX4.two
        refine wpAnyH_ready (rs := [11]) (by kernel_rfl) (by simp) ?_
        refine AllReadyH.cons (o := _) rfl (fun K hK => ?_) AllReadyH.nil
        go_simp
        refine hK.out _ _ (trivial) (fun hHeld => ?_); clear hK K
        (try simp only [List.getElem_toArray, List.getElem_cons_succ, List.getElem_cons_zero, Act.put, List.setIfInBounds_toArray, List.set_cons_zero, List.set_cons_succ])
        refine wpAnyH_done (by kernel_rfl) ?_ _
        have HO2 := hide (show ∀ y ∈ o ++ [x], 0 ≤ y ∧ y ≤ 100 from fun y hy => by
          rw [List.mem_append, List.mem_singleton] at hy
          rcases hy with hy | rfl
          · exact HO.out y hy
          · omega)
        have hB4 : But g w w4 := ((((hB1.drew.trans hb2).alloc _).trans hb3).alloc _).below hb4 (by omega)
        have hY4 : Box w4 w.heap.size _ _ := ((((hY.drew.but hb2 (by omega)).push _).but hb3 (by omega)).push _).below hb4 (by omega)
        have hr4 : Rdr B w4 g (q + 1 + 1) := (hr3.alloc _).below hb4 (by omega)
        clear d0 d1 f0 f1
        go_wp2
        go_roundw
        case rel => exact ⟨k - 1, q + 2, some ⟨g4, 0, none⟩, c4, o ++ [x], by go_num, by simp; omega, by simp; omega, (by rw [← len_snoc'' o x]; exact hX4.set 0 _), R4.put (by omega) _ _, HO2, hr4.put _ _ _ (by omega) (by have := hr.low; omega), hB4.put _ _ _ (by omega), hY4.put (by omega) _ _⟩
        case measure => simp [intOf]; omega
      refine AllReadyH.cons (o := _) rfl (fun K hK => ?_) AllReadyH.nil
      go_simp
      refine hK.out _ _ trivial (fun hHeld => ?_); clear hK K
      (try simp only [List.getElem_toArray, List.getElem_cons_succ, List.getElem_cons_zero, Act.put, List.setIfInBounds_toArray, List.set_cons_zero, List.set_cons_succ])
      refine wpAnyH_ready (rs := [1, 7]) (by kernel_rfl) (by simp) ?_
      refine AllReadyH.cons (o := _) rfl (fun K hK => ?_) ?_
      · have cl := (((hX.drew.but hb2 (by omega)).push (.cells #[.int .i64 1, .int .i64 2, .int .i64 3, .int .i64 5, .int .i64 0, .int .i64 (1 + v), .int .i64 100] 3))).two.1
        go_simp
        refine hK.out _ _ trivial (fun hHeld => ?_); clear hK K
        (try simp only [List.getElem_toArray, List.getElem_cons_succ, List.getElem_cons_zero, Act.put, List.setIfInBounds_toArray, List.set_cons_zero, List.set_cons_succ])
        clear cl
        refine wpAnyH_ready (rs := [7]) (by kernel_rfl) (by simp) ?_
        refine AllReadyH.cons (o := _) rfl (fun K hK => ?_) AllReadyH.nil
        go_simp
        refine (one_new B g (q + 1) [1, 2, 3, 5, 0, 1 + v, 100] 0 100 _ w2 hr2 (by omega) (by simp) (by simp) (by simp; omega)).mono ?_; rintro e w3 ⟨x, rfl, x0, x1, hr3, hb3, hs3⟩
        refine hK.out _ _ trivial (fun hHeld => ?_); clear hK K
        (try simp only [List.getElem_toArray, List.getElem_cons_succ, List.getElem_cons_zero, Act.put, List.setIfInBounds_toArray, List.set_cons_zero, List.set_cons_succ])
        clear hs3
        have hX3 := ((hX.drew.but hb2 (by omega)).push _).but hb3 (by omega)
        have hR3 : Row (w.heap.size + 2) w3 s2 c2 o := (((hR.ext (Ext.refl _).drew).but hb2 (by omega)).ext ((Ext.refl _).alloc _)).but hb3 (by omega)
        have hS3 : w.heap.size + 2 ≤ w3.heap.size := by have := hX.lt; have := hb2.size; have := hb3.size; simp at *; omega
        refine wpAnyH_ready (rs := [8]) (by kernel_rfl) (by simp) ?_
        refine AllReadyH.cons (o := _) rfl (fun K hK => ?_) AllReadyH.nil
        go_simp
        refine hK.out _ _ trivial (fun hHeld => ?_); clear hK K
        (try simp only [List.getElem_toArray, List.getElem_cons_succ, List.getElem_cons_zero, Act.put, List.setIfInBounds_toArray, List.set_cons_zero, List.set_cons_succ])
        refine wpAnyH_ready (rs := [9]) (by kernel_rfl) (by simp) ?_
        refine AllReadyH.cons (o := _) rfl (fun K hK => ?_) AllReadyH.nil
        refine step_append_int (s := .tmp 15) (x := .tmp 22) (v := x) (by rfl) (by rfl) (by rfl) (by rfl) (Box.new _ _ _) (hR3.ext ((Ext.refl _).alloc _)) (by omega) (by simp; omega) ?_; intro g4 c4 w4 R4 hb4
        refine hK.out _ _ (trivial) (fun hHeld => ?_); clear hK K
        (try simp only [List.getElem_toArray, List.getElem_cons_succ, List.getElem_cons_zero, Act.put, List.setIfInBounds_toArray, List.set_cons_zero, List.set_cons_succ])
        refine wpAnyH_take (i := 10) (oi := _) (v := ?_) rfl (by kernel_rfl) (by kernel_rfl) (by kernel_rfl) (fun _ _ _ h => h) (Or.inl ⟨by rfl, ?_⟩) (by assumption) ?_
        rotate_left
        · (intro w hSw; (try dsimp only at hSw); go_simp; (try with_reducible rfl))
        (try simp only [List.getElem_toArray, List.getElem_cons_succ, List.getElem_cons_zero, Act.put, List.setIfInBounds_toArray, List.set_cons_zero, List.set_cons_succ])
        have hX4 := (hX3.push _).below hb4 (by omega)
        obtain ⟨d0, d1, f0, f1⟩ := hX4.two
        refine wpAnyH_ready (rs := [11]) (by kernel_rfl) (by simp) ?_
        refine AllReadyH.cons (o := _) rfl (fun K hK => ?_) AllReadyH.nil
        go_simp
        refine hK.out _ _ (trivial) (fun hHeld => ?_); clear hK K
        (try simp only [List.getElem_toArray, List.getElem_cons_succ, List.getElem_cons_zero, Act.put, List.setIfInBounds_toArray, List.set_cons_zero, List.set_cons_succ])
        refine wpAnyH_done (by kernel_rfl) ?_ _
        have HO2 := hide (show ∀ y ∈ o ++ [x], 0 ≤ y ∧ y ≤ 100 from fun y hy => by
          rw [List.mem_append, List.mem_singleton] at hy
          rcases hy with hy | rfl
          · exact HO.out y hy
          · omega)
        have hB4 : But g w w4 := ((((hB1.drew.trans hb2).alloc _).trans hb3).alloc _).below hb4 (by omega)
        have hY4 : Box w4 w.heap.size _ _ := ((((hY.drew.but hb2 (by omega)).push _).but hb3 (by omega)).push _).below hb4 (by omega)
        have hr4 : Rdr B w4 g (q + 1 + 1) := (hr3.alloc _).below hb4 (by omega)
        clear d0 d1 f0 f1
        go_wp2
        go_roundw
        case rel => exact ⟨k - 1, q + 2, some ⟨g4, 0, none⟩, c4, o ++ [x], by go_num, by simp; omega, by simp; omega, (by rw [← len_snoc'' o x]; exact hX4.set 0 _), R4.put (by omega) _ _, HO2, hr4.put _ _ _ (by omega) (by have := hr.low; omega), hB4.put _ _ _ (by omega), hY4.put (by omega) _ _⟩
        case measure => simp [intOf]; omega
      refine AllReadyH.cons (o := _) rfl (fun K hK => ?_) AllReadyH.nil
      go_simp
      refine (one_new B g (q + 1) [1, 2, 3, 5, 0, 1 + v, 100] 0 100 _ w2 hr2 (by omega) (by simp) (by simp) (by simp; omega)).mono ?_; rintro e w3 ⟨x, rfl, x0, x1, hr3, hb3, hs3⟩
      refine hK.out _ _ trivial (fun hHeld => ?_); clear hK K
      (try simp only [List.getElem_toArray, List.getElem_cons_succ, List.getElem_cons_zero, Act.put, List.setIfInBounds_toArray, List.set_cons_zero, List.set_cons_succ])
      clear hs3
      have hX3 := ((hX.drew.but hb2 (by omega)).push _).but hb3 (by omega)
      have hR3 : Row (w.heap.size + 2) w3 s2 c2 o := (((hR.ext (Ext.refl _).drew).but hb2 (by omega)).ext ((Ext.refl _).alloc _)).but hb3 (by omega)
      have hS3 : w.heap.size + 2 ≤ w3.heap.size := by have := hX.lt; have := hb2.size; have := hb3.size; simp at *; omega
      refine wpAnyH_ready (rs := [1, 8]) (by kernel_rfl) (by simp) ?_
      refine AllReadyH.cons (o := _) rfl (fun K hK => ?_) ?_
      · have cl := (hX3).two.1
        go_simp
        refine hK.out _ _ trivial (fun hHeld => ?_); clear hK K
        (try simp only [List.getElem_toArray, List.getElem_cons_succ, List.getElem_cons_zero, Act.put, List.setIfInBounds_toArray, List.set_cons_zero, List.set_cons_succ])
        clear cl
        refine wpAnyH_ready (rs := [8]) (by kernel_rfl) (by simp) ?_
        refine AllReadyH.cons (o := _) rfl (fun K hK => ?_) AllReadyH.nil
        go_simp
        refine hK.out _ _ trivial (fun hHeld => ?_); clear hK K
        (try simp only [List.getElem_toArray, List.getElem_cons_succ, List.getElem_cons_zero, Act.put, List.setIfInBounds_toArray, List.set_cons_zero, List.set_cons_succ])
        refine wpAnyH_ready (rs := [9]) (by kernel_rfl) (by simp) ?_
        refine AllReadyH.cons (o := _) rfl (fun K hK => ?_) AllReadyH.nil
        refine step_append_int (s := .tmp 15) (x := .tmp 22) (v := x) (by rfl) (by rfl) (by rfl) (by rfl) (Box.new _ _ _) (hR3.ext ((Ext.refl _).alloc _)) (by omega) (by simp; omega) ?_; intro g4 c4 w4 R4 hb4
        refine hK.out _ _ (trivial) (fun hHeld => ?_); clear hK K
        (try simp only [List.getElem_toArray, List.getElem_cons_succ, List.getElem_cons_zero, Act.put, List.setIfInBounds_toArray, List.set_cons_zero, List.set_cons_succ])
        refine wpAnyH_take (i := 10) (oi := _) (v := ?_) rfl (by kernel_rfl) (by kernel_rfl) (by kernel_rfl) (fun _ _ _ h => h) (Or.inl ⟨by rfl, ?_⟩) (by assumption) ?_
        rotate_left
        · (intro w hSw; (try dsimp only at hSw); go_simp; (try with_reducible rfl))
        (try simp only [List.getElem_toArray, List.getElem_cons_succ, List.getElem_cons_zero, Act.put, List.setIfInBounds_toArray, List.set_cons_zero, List.set_cons_succ])
        have hX4 := (hX3.push _).below hb4 (by omega)
        obtain ⟨d0, d1, f0, f1⟩ := hX4.two
        refine wpAnyH_ready (rs := [11]) (by kernel_rfl) (by simp) ?_
        refine AllReadyH.cons (o := _) rfl (fun K hK => ?_) AllReadyH.nil
        go_simp
        refine hK.out _ _ (trivial) (fun hHeld => ?_); clear hK K
        (try simp only [List.getElem_toArray, List.getElem_cons_succ, List.getElem_cons_zero, Act.put, List.setIfInBounds_toArray, List.set_cons_zero, List.set_cons_succ])
        refine wpAnyH_done (by kernel_rfl) ?_ _
        have HO2 := hide (show ∀ y ∈ o ++ [x], 0 ≤ y ∧ y ≤ 100 from fun y hy => by
          rw [List.mem_append, List.mem_singleton] at hy
          rcases hy with hy | rfl
          · exact HO.out y hy
          · omega)
        have hB4 : But g w w4 := ((((hB1.drew.trans hb2).alloc _).trans hb3).alloc _).below hb4 (by omega)
        have hY4 : Box w4 w.heap.size _ _ := ((((hY.drew.but hb2 (by omega)).push _).but hb3 (by omega)).push _).below hb4 (by omega)
        have hr4 : Rdr B w4 g (q + 1 + 1) := (hr3.alloc _).below hb4 (by omega)
        clear d0 d1 f0 f1
        go_wp2
        go_roundw
        case rel => exact ⟨k - 1, q + 2, some ⟨g4, 0, none⟩, c4, o ++ [x], by go_num, by simp; omega, by simp; omega, (by rw [← len_snoc'' o x]; exact hX4.set 0 _), R4.put (by omega) _ _, HO2, hr4.put _ _ _ (by omega) (by have := hr.low; omega), hB4.put _ _ _ (by omega), hY4.put (by omega) _ _⟩
        case measure => simp [intOf]; omega
      refine AllReadyH.cons (o := _) rfl (fun K hK => ?_) AllReadyH.nil
      go_simp
      refine hK.out _ _ trivial (fun hHeld => ?_); clear hK K
      (try simp only [List.getElem_toArray, List.getElem_cons_succ, List.getElem_cons_zero, Act.put, List.setIfInBounds_toArray, List.set_cons_zero, List.set_cons_succ])
      refine wpAnyH_ready (rs := [1]) (by kernel_rfl) (by simp) ?_
      refine AllReadyH.cons (o := _) rfl (fun K hK => ?_) AllReadyH.nil
      have cl := ((hX3.push (.cells #[.int .i64 x] 3))).two.1
      go_simp
      refine hK.out _ _ trivial (fun hHeld => ?_); clear hK K
      (try simp only [List.getElem_toArray, List.getElem_cons_succ, List.getElem_cons_zero, Act.put, List.setIfInBounds_toArray, List.set_cons_zero, List.set_cons_succ])
      clear cl
      refine wpAnyH_ready (rs := [9]) (by kernel_rfl) (by simp) ?_
      refine AllReadyH.cons (o := _) rfl (fun K hK => ?_) AllReadyH.nil
      refine step_append_int (s := .tmp 15) (x := .tmp 22) (v := x) (by rfl) (by rfl) (by rfl) (by rfl) (Box.new _ _ _) (hR3.ext ((Ext.refl _).alloc _)) (by omega) (by simp; omega) ?_; intro g4 c4 w4 R4 hb4
      refine hK.out _ _ (trivial) (fun hHeld => ?_); clear hK K
      (try simp only [List.getElem_toArray, List.getElem_cons_succ, List.getElem_cons_zero, Act.put, List.setIfInBounds_toArray, List.set_cons_zero, List.set_cons_succ])
      refine wpAnyH_take (i := 10) (oi := _) (v := ?_) rfl (by kernel_rfl) (by kernel_rfl) (by kernel_rfl) (fun _ _ _ h => h) (Or.inl ⟨by rfl, ?_⟩) (by assumption) ?_
      rotate_left
      · (intro w hSw; (try dsimp only at hSw); go_simp; (try with_reducible rfl))
      (try simp only [List.getElem_toArray, List.getElem_cons_succ, List.getElem_cons_zero, Act.put, List.setIfInBounds_toArray, List.set_cons_zero, List.set_cons_succ])
      have hX4 := (hX3.push _).below hb4 (by omega)
      obtain ⟨d0, d1, f0, f1⟩ := hX4.two
      refine wpAnyH_ready (rs := [11]) (by kernel_rfl) (by simp) ?_
      refine AllReadyH.cons (o := _) rfl (fun K hK => ?_) AllReadyH.nil
      go_simp
      refine hK.out _ _ (trivial) (fun hHeld => ?_); clear hK K
      (try simp only [List.getElem_toArray, List.getElem_cons_succ, List.getElem_cons_zero, Act.put, List.setIfInBounds_toArray, List.set_cons_zero, List.set_cons_succ])
      refine wpAnyH_done (by kernel_rfl) ?_ _
      have HO2 := hide (show ∀ y ∈ o ++ [x], 0 ≤ y ∧ y ≤ 100 from fun y hy => by
        rw [List.mem_append, List.mem_singleton] at hy
        rcases hy with hy | rfl
        · exact HO.out y hy
        · omega)
      have hB4 : But g w w4 := ((((hB1.drew.trans hb2).alloc _).trans hb3).alloc _).below hb4 (by omega)
      have hY4 : Box w4 w.heap.size _ _ := ((((hY.drew.but hb2 (by omega)).push _).but hb3 (by omega)).push _).below hb4 (by omega)
      have hr4 : Rdr B w4 g (q + 1 + 1) := (hr3.alloc _).below hb4 (by omega)
      clear d0 d1 f0 f1
      go_wp2
      go_roundw
      case rel => exact ⟨k - 1, q + 2, some ⟨g4, 0, none⟩, c4, o ++ [x], by go_num, by simp; omega, by simp; omega, (by rw [← len_snoc'' o x]; exact hX4.set 0 _), R4.put (by omega) _ _, HO2, hr4.put _ _ _ (by omega) (by have := hr.low; omega), hB4.put _ _ _ (by omega), hY4.put (by omega) _ _⟩
      case measure => simp [intOf]; omega
    · have hk0 : k = 0 := by omega
      have hd : decide ((0 : Int) < (k : Int)) = false := decide_eq_false (by omega)
      have hbt := tot_bd o 100 HO.out
      obtain ⟨c0, c1, _, _⟩ := hX.two
      clear hlt2
      go_wp2_with fail
      refine (specTotal _ _ _ o _ hR.lst rfl (by omega) (fun x hx => ⟨(HO.out x hx).1, by have := (HO.out x hx).2; omega⟩)).mono ?_; rintro e w' ⟨rfl, rfl⟩
      obtain ⟨s, hs⟩ : ∃ s, s = tot o := ⟨_, rfl⟩; rw [← hs] at hbt ⊢
      clear hs c0 c1
      go_wp2_with fail
      refine (pick_pos B g q (s + 1) _ hr1 (by omega) (by omega)).mono ?_
      rintro e w2 ⟨v, rfl, v0, v1, hr2, hb2, hs2⟩
      clear hs2
      go_wp2_with fail
      refine (one_at B g (q + 1) [_, _, s, 1, 1 + v] (-100000) 100000 _ _ _ w2 rfl rfl hr2 (by omega) (by simp) (by simp) (by simp; omega)).mono ?_
      rintro e w3 ⟨nd, rfl, m0, m1, hr3, hb3, hs3⟩
      clear hs3
      have hX3 := ((hX.but hb2 (by omega)).push _).but hb3 (by omega)
      have hY3 := ((hY.but hb2 (by omega)).push _).but hb3 (by omega)
      have hR3 := ((hR.but hb2 (by omega)).ext ((Ext.refl _).alloc _)).but hb3 (by omega)
      have hB3 := ((hB1.trans hb2).alloc _).trans hb3
      obtain ⟨d0, d1, _, f1⟩ := hX3.two
      obtain ⟨b0, b1, b2, b3⟩ := hY3.two
      go_wp2
      refine bodyPost_ret (v := .agg #[.slice s2 o.length c2, .int .i64 nd]) (by simp [results, Try.results102, go_sem, b0, b1]) rfl ?_
      exact ⟨s2, c2, o, nd, rfl, (((hR3.put (by omega) _ _).put (by omega) _ _).put (by omega) _ _).le (by omega), by omega, by omega, HO.out, m0, m1, ⟨q + 1 + 1, by omega, ((hr3.put _ _ _ (by omega) (by have := hr.low; omega)).put _ _ _ (by omega) (by have := hr.low; omega)).put _ _ _ (by omega) (by have := hr.low; omega)⟩, ((hB3.put _ _ _ (by omega)).put _ _ _ (by omega)).put _ _ _ (by omega)⟩
end Go.Proofs.Ytjdfdikifiljjab
