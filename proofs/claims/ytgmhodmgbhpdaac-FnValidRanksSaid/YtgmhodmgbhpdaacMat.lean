/- Lists of lists of integers. -/
import Derived.Test.YtgmhodmgbhpdaacApp
namespace Go.Proofs.Ytgmhodmgbhpdaac
open Go.ChangeShapes Go.WideShapes Go.ChangeAt Go.RowKit Go.Joins Go.Sort
set_option linter.unusedVariables false

/-- a list's lists, where they can be read -/
def Mst (w : World) (sa : Option Addr) (ll : List (List Int)) : Prop :=
  ll = [] ∨ ∃ g off, sa = some ⟨g, off, none⟩ ∧ g < w.heap.size ∧ ∀ i, i < ll.length → ∃ si ci, w.cell? ⟨g, off + i, none⟩ = some (.slice si (ll.getD i []).length ci) ∧ Lst w si (ll.getD i []) ∧ (ll.getD i []).length ≤ ci
theorem Mst.ext {w w' : World} {sa : Option Addr} {ll : List (List Int)} (h : Mst w sa ll) (e : Ext w w') : Mst w' sa ll := by
  rcases h with h | ⟨g, off, h1, h2, h3⟩
  · exact .inl h
  · refine .inr ⟨g, off, h1, e.lt h2, fun i hi => ?_⟩
    obtain ⟨si, ci, a, b, c⟩ := h3 i hi
    exact ⟨si, ci, (e.cell h2).trans a, b.ext e, c⟩
theorem Mst.at {w : World} {sa : Option Addr} {ll : List (List Int)} (h : Mst w sa ll) {i : Nat} (hi : i < ll.length) :
    ∃ g off si ci, sa = some ⟨g, off, none⟩ ∧ g < w.heap.size ∧ w.cell? ⟨g, off + i, none⟩ = some (.slice si (ll.getD i []).length ci) ∧ Lst w si (ll.getD i []) ∧ (ll.getD i []).length ≤ ci := by
  rcases h with h | ⟨g, off, h1, h2, h3⟩
  · subst h; simp at hi
  · obtain ⟨si, ci, a, b, c⟩ := h3 i hi
    exact ⟨g, off, si, ci, h1, h2, a, b, c⟩

/-- where the lists lie: address and capacity -/
abbrev Heads := List (Option Addr × Nat)
def hcell (h : Option Addr × Nat) (l : List Int) : Value := .slice h.1 l.length h.2
def cellsM (hs : Heads) (ll : List (List Int)) : List Value := List.zipWith hcell hs ll
theorem cellsM_len {hs : Heads} {ll : List (List Int)} (h : hs.length = ll.length) : (cellsM hs ll).length = ll.length := by
  unfold cellsM; rw [List.length_zipWith]; omega
theorem cellsM_at {hs : Heads} {ll : List (List Int)} (h : hs.length = ll.length) {i : Nat} (hi : i < ll.length) : (cellsM hs ll)[i]? = some (hcell (hs.getD i (none, 0)) (ll.getD i [])) := by
  unfold cellsM
  rw [List.getElem?_zipWith, List.getElem?_eq_getElem (show i < hs.length by omega), List.getElem?_eq_getElem hi, List.getD_eq_getElem?_getD, List.getD_eq_getElem?_getD, List.getElem?_eq_getElem (show i < hs.length by omega), List.getElem?_eq_getElem hi]
  rfl
theorem cellsM_snoc {hs : Heads} {ll : List (List Int)} (h : hs.length = ll.length) (x : Option Addr × Nat) (l : List Int) : cellsM (hs ++ [x]) (ll ++ [l]) = cellsM hs ll ++ [hcell x l] := by
  unfold cellsM; rw [List.zipWith_append h]; rfl

/-- lists that a call has made, each in a block of its own -/
structure Mat (base : Nat) (w : World) (sa : Option Addr) (cap : Nat) (ll : List (List Int)) (hs : Heads) : Prop where
  len : hs.length = ll.length
  own : w.ownsRow base 22 1 (.slice sa ll.length cap) ll.length (cellsM hs ll)
  row : ∀ i, i < ll.length → Row base w (hs.getD i (none, 0)).1 (hs.getD i (none, 0)).2 (ll.getD i [])
  sep : ∀ i j a b, i < ll.length → j < ll.length → i ≠ j → (hs.getD i (none, 0)).1 = some a → (hs.getD j (none, 0)).1 = some b → a.block ≠ b.block
  out : ∀ i a b, i < ll.length → (hs.getD i (none, 0)).1 = some a → sa = some b → a.block ≠ b.block
theorem Mat.nil (base : Nat) (w : World) : Mat base w none 0 [] [] :=
  ⟨rfl, World.ownsRow_nil _ _ _ _, fun i hi => by simp at hi, fun i j a b hi => by simp at hi, fun i a b hi => by simp at hi⟩
theorem Mat.made (base : Nat) (w : World) (hb : base ≤ w.heap.size) : Mat base (w.alloc (.cells #[] 22)) (some ⟨w.heap.size, 0, none⟩) 0 [] [] :=
  ⟨rfl, World.ownsRow_made w #[] 0 hb (by unfold maxLen; omega) (by simp), fun i hi => by simp at hi, fun i j a b hi => by simp at hi, fun i a b hi => by simp at hi⟩
theorem ownsRow_ext {base : Nat} {w w' : World} {T : TypeId} {v : Value} {n : Nat} {xs : List Value} (h : w.ownsRow base T 1 v n xs) (e : Ext w w') : w'.ownsRow base T 1 v n xs := by
  obtain ⟨h1, h2⟩ := h
  refine ⟨h1, ?_⟩
  rcases h2 with h2 | ⟨g, c, cur, h2, h3, h4, h5⟩
  · exact .inl h2
  · exact .inr ⟨g, c, cur, h2, h3, (e.to.block g (size_of_heap h4)).trans h4, h5⟩
theorem Mat.ext {base : Nat} {w w' : World} {sa : Option Addr} {cap : Nat} {ll : List (List Int)} {hs : Heads} (h : Mat base w sa cap ll hs) (e : Ext w w') : Mat base w' sa cap ll hs :=
  ⟨h.len, ownsRow_ext h.own e, fun i hi => (h.row i hi).ext e, h.sep, h.out⟩
theorem Mat.le {base base' : Nat} {w : World} {sa : Option Addr} {cap : Nat} {ll : List (List Int)} {hs : Heads} (h : Mat base w sa cap ll hs) (hb : base' ≤ base) : Mat base' w sa cap ll hs :=
  ⟨h.len, ownsRow_le h.own hb, fun i hi => (h.row i hi).le hb, h.sep, h.out⟩
/-- where the outer list lies -/
theorem Mat.form {base : Nat} {w : World} {sa : Option Addr} {cap : Nat} {ll : List (List Int)} {hs : Heads} (h : Mat base w sa cap ll hs) :
    (sa = none ∧ ll = []) ∨ ∃ g cur, sa = some ⟨g, 0, none⟩ ∧ base ≤ g ∧ w.heap[g]? = some (.cells cur 22 (0, 0)) ∧ ∀ i, i < ll.length → cur[i]? = some (hcell (hs.getD i (none, 0)) (ll.getD i [])) := by
  obtain ⟨h1, h2⟩ := h.own
  rcases h2 with ⟨h2, h3⟩ | ⟨g, c, cur, h2, h3, h4, h5, h6, h7, h8⟩
  · simp only [Value.slice.injEq] at h2
    exact .inl ⟨h2.1, List.length_eq_zero_iff.1 h3⟩
  · simp only [Value.slice.injEq] at h2
    obtain ⟨rfl, _, rfl⟩ := h2
    refine .inr ⟨g, cur, rfl, h3, h4, fun i hi => ?_⟩
    have e : (cur.toList.take (ll.length * 1))[i]? = (cellsM hs ll)[i]? := by rw [h8]
    rw [List.getElem?_take_of_lt (by omega), cellsM_at h.len hi] at e
    simpa using e
theorem Mat.mst {base : Nat} {w : World} {sa : Option Addr} {cap : Nat} {ll : List (List Int)} {hs : Heads} (h : Mat base w sa cap ll hs) : Mst w sa ll := by
  rcases h.form with ⟨_, h0⟩ | ⟨g, cur, h1, h2, h3, h4⟩
  · exact .inl h0
  · refine .inr ⟨g, 0, h1, size_of_heap h3, fun i hi => ⟨(hs.getD i (none, 0)).1, (hs.getD i (none, 0)).2, ?_, (h.row i hi).lst, (h.row i hi).cap⟩⟩
    rw [cell_of_block h3]; simpa [hcell] using h4 i hi

theorem Row.grownR {base : Nat} {w w' : World} {row : Option Nat} {sa : Option Addr} {cap : Nat} {l : List Int} (h : Row base w sa cap l) (hg : w.grownBy w' row) (hn : ∀ a, sa = some a → some a.block ≠ row) : Row base w' sa cap l := by
  obtain ⟨h1, h2⟩ := h
  refine ⟨h1, ?_⟩
  rcases h2 with h2 | ⟨g, c, cur, h2, h3, h4, h5⟩
  · exact .inl h2
  · have e : sa = some ⟨g, 0, none⟩ := by simp only [Value.slice.injEq] at h2; exact h2.1
    exact .inr ⟨g, c, cur, h2, h3, (hg.block g (size_of_heap h4) (hn _ e)).trans h4, h5⟩
theorem Row.block_lt {base : Nat} {w : World} {sa : Option Addr} {cap : Nat} {l : List Int} (r : Row base w sa cap l) {a : Addr} (h : sa = some a) : base ≤ a.block ∧ a.block < w.heap.size := by
  obtain ⟨h1, h2⟩ := r
  rcases h2 with ⟨h2, _⟩ | ⟨b, c, cur, h2, h3, h4, h5⟩
  · simp only [Value.slice.injEq] at h2; rw [h] at h2; cases h2.1
  · simp only [Value.slice.injEq] at h2; rw [h] at h2
    have := h2.1; cases this
    exact ⟨h3, size_of_heap h4⟩
theorem Mat.outer_lt {base : Nat} {w : World} {sa : Option Addr} {cap : Nat} {ll : List (List Int)} {hs : Heads} (h : Mat base w sa cap ll hs) {a : Addr} (ha : sa = some a) : base ≤ a.block ∧ a.block < w.heap.size := by
  rcases h.form with ⟨h0, _⟩ | ⟨g, cur, h1, h2, h3, h4⟩
  · rw [ha] at h0; cases h0
  · rw [ha] at h1; cases h1; exact ⟨h2, size_of_heap h3⟩
theorem Try.infoRow : (Try.prog.info? 22).map (fun i => (i.zero, i.size, i.bytes)) = some (some (.slice none 0 0), 1, 24) := by kernel_rfl
theorem getD_snoc_lt {α : Type} (l : List α) (x d : α) {i : Nat} (h : i < l.length) : (l ++ [x]).getD i d = l.getD i d := by
  rw [List.getD_eq_getElem?_getD, List.getD_eq_getElem?_getD, List.getElem?_append_left h]
theorem getD_snoc_eq {α : Type} (l : List α) (x d : α) : (l ++ [x]).getD l.length d = x := by
  rw [List.getD_eq_getElem?_getD, List.getElem?_append_right (Nat.le_refl _)]; simp
/-- one list more -/
theorem Mat.snoc {base : Nat} {w w' : World} {sa sb : Option Addr} {cap cb : Nat} {ll : List (List Int)} {hs : Heads} (M : Mat base w sa cap ll hs) {si : Option Addr} {ci : Nat} {l : List Int} (R : Row base w si ci l)
    (hf : ∀ a, si = some a → (∀ b, sa = some b → a.block ≠ b.block) ∧ ∀ i b, i < ll.length → (hs.getD i (none, 0)).1 = some b → a.block ≠ b.block) {row : Option Nat} (hg : w.grownBy w' row) (hrow : ∀ k, row = some k → ∃ a, sa = some a ∧ a.block = k)
    (hown : w'.ownsRow base 22 1 (.slice sb (ll.length + 1) cb) (ll.length + 1) (cellsM hs ll ++ [hcell (si, ci) l])) (hat : ∀ b, sb = some b → (∃ a, sa = some a ∧ a.block = b.block) ∨ w.heap.size ≤ b.block) :
    Mat base w' sb cb (ll ++ [l]) (hs ++ [(si, ci)]) := by
  have hne : ∀ i a, i < ll.length → (hs.getD i (none, 0)).1 = some a → some a.block ≠ row := by
    intro i a hi ha e
    obtain ⟨b, hb1, hb2⟩ := hrow _ e.symm
    exact M.out i a b hi ha hb1 hb2.symm
  have hne2 : ∀ a, si = some a → some a.block ≠ row := by
    intro a ha e
    obtain ⟨b, hb1, hb2⟩ := hrow _ e.symm
    exact (hf a ha).1 b hb1 hb2.symm
  have hlen := M.len
  have g1 : ∀ i, i < ll.length → (hs ++ [(si, ci)]).getD i (none, 0) = hs.getD i (none, 0) := fun i hi => getD_snoc_lt _ _ _ (by omega)
  have g2 : (hs ++ [(si, ci)]).getD ll.length (none, 0) = (si, ci) := by rw [← hlen]; exact getD_snoc_eq _ _ _
  refine ⟨by simp [hlen], ?_, fun i hi => ?_, fun i j a b hi hj hij ha hb => ?_, fun i a b hi ha hb => ?_⟩
  · rw [cellsM_snoc hlen, List.length_append]; exact hown
  · rw [List.length_append, List.length_singleton] at hi
    by_cases e : i = ll.length
    · subst e; rw [g2, getD_snoc_eq]; exact R.grownR hg hne2
    · rw [g1 i (by omega), getD_snoc_lt _ _ _ (by omega)]; exact (M.row i (by omega)).grownR hg fun a ha => hne i a (by omega) ha
  · rw [List.length_append, List.length_singleton] at hi hj
    by_cases ei : i = ll.length
    · subst ei
      rw [g2] at ha; rw [g1 j (by omega)] at hb
      exact (hf a ha).2 j b (by omega) hb
    · by_cases ej : j = ll.length
      · subst ej
        rw [g2] at hb; rw [g1 i (by omega)] at ha
        exact fun e => (hf b hb).2 i a (by omega) ha e.symm
      · rw [g1 i (by omega)] at ha; rw [g1 j (by omega)] at hb
        exact M.sep i j a b (by omega) (by omega) hij ha hb
  · rw [List.length_append, List.length_singleton] at hi
    rcases hat b hb with ⟨c, hc1, hc2⟩ | hbig
    · rw [← hc2]
      by_cases e : i = ll.length
      · subst e; rw [g2] at ha; exact (hf a ha).1 c hc1
      · rw [g1 i (by omega)] at ha; exact M.out i a c (by omega) ha hc1
    · by_cases e : i = ll.length
      · subst e; rw [g2] at ha
        have := (R.block_lt ha).2; omega
      · rw [g1 i (by omega)] at ha
        have := ((M.row i (by omega)).block_lt ha).2; omega

/-- an append of a list, which was made just before, to a list of lists of the call's own -/
theorem append_row {ops : Array Oper} {rest : List Oper} {o : Oper} {a : Act} {Q : Exit → Act → World → Prop} {s x : Operand} (hgd : o.guard = none)
    (ho : o.op = .call { callee := .builtin .append, args := #[s, x], argTypes := #[44, 44] }) {base : Nat} {w0 w1 : World} {sa : Option Addr} {cap : Nat} {ll : List (List Int)} {hs : Heads} {si : Option Addr} {ci : Nat} {l : List Int} {T : TypeId}
    (hse : a.eval s = .slice sa ll.length cap) (hx : a.eval x = .slice (some ⟨w1.heap.size, 0, none⟩) 1 1) (M : Mat base w0 sa cap ll hs) (E : Ext w0 w1) (R : Row w0.heap.size w1 si ci l) (hl : ll.length ≤ 2000000) (hb : base ≤ w0.heap.size)
    (h : ∀ g cap' w', Mat base w' (some ⟨g, 0, none⟩) cap' (ll ++ [l]) (hs ++ [(si, ci)]) → Below base w1 w' → wpList Try.prog ops Q rest (a.put o.dst (.slice (some ⟨g, 0, none⟩) (ll.length + 1) cap')) w') :
    wpList Try.prog ops Q (o :: rest) a (w1.alloc (.cells #[.slice si l.length ci] T)) := by
  obtain ⟨i0, hi, hz0, hz1, hz2⟩ := info_parts Try.infoRow
  have hA : Below base w1 (w1.alloc (.cells #[.slice si l.length ci] T)) := (Below.refl _ _).alloc (Nat.le_trans hb E.size) _
  have M1 := M.ext (E.alloc (.cells #[.slice si l.length ci] T))
  have e01 := E.size
  refine wpList_append_own_at _ hgd s x 44 ho base 22 i0 (.slice none 0 0) 1 24 Try.underlying44 hi hz0 hz1 hz2 rfl (by decide) _ _ _ hse M1.own ⟨w1.heap.size, 0, none⟩ 1 1 [.slice si l.length ci] hx rfl (one_news _ _ _) (by simp [Value.oneCell']) (by unfold maxLen; omega) (by omega) (by simp; omega) ?_
  intro v' w2 hown hgrow hnil hat
  obtain ⟨g, cap', rfl⟩ := ownsRow_form hown (by omega)
  refine h g cap' w2 (M1.snoc ((R.le hb).ext ((Ext.refl w1).alloc _)) (fun a ha => ?_) hgrow (fun k hk => ?_) hown (fun b hb2 => ?_)) (hA.grown hgrow (by simp; omega) fun k hk => ?_)
  · have hr := (R.block_lt ha).1
    refine ⟨fun b hb2 => ?_, fun i b hi hb2 => ?_⟩
    · have := (M.outer_lt hb2).2; omega
    · have := ((M.row i hi).block_lt hb2).2; omega
  · cases hsa : sa with
    | none => rw [hsa] at hk; simp [Value.ownBlock] at hk
    | some a => rw [hsa] at hk; simp only [Value.ownBlock, Option.some.injEq] at hk; exact ⟨a, rfl, hk⟩
  · simp only [Option.some.injEq] at hb2
    subst hb2
    rcases hat with e | e
    · left
      cases hsa : sa with
      | none => rw [hsa] at e; simp [Value.ownBlock] at e
      | some a => rw [hsa] at e; simp only [Value.ownBlock, Option.some.injEq] at e; exact ⟨a, rfl, e.symm⟩
    · right; simp only [Value.ownBlock, Option.some.injEq] at e; exact Nat.le_of_eq e.symm
  · exact (World.ownsRow.lt M1.own k hk).1

set_option maxHeartbeats 1000000 in
theorem eqIntSS_same (sa sb : Option Addr) (ca cb : Nat) (ll : List (List Int)) (w : World) (ha : Mst w sa ll) (hb : Mst w sb ll) (hl : ll.length ≤ 2000000) (hin : ∀ i, i < ll.length → (ll.getD i []).length ≤ 2000000) :
    Calls Try.prog 29 #[.slice sa ll.length ca, .slice sb ll.length cb] w (Ret (.bool true) w) := by
  have HA := hide ha; clear ha
  have HB := hide hb; clear hb
  have HI := hide hin; clear hin
  have hne : ((ll.length : Int) != ll.length) = false := by simp
  go_enter Try.func29, Try.ntmps29
  go_wp2
  go_loopw [5] (fun i wr => ∃ k : Nat, k ≤ ll.length ∧ i = .int .i64 k ∧ Ext w wr) (fun i _ => ll.length - (intOf i).toNat)
  case atStart => exact ⟨0, Nat.zero_le _, rfl, Ext.refl _⟩
  case round =>
    obtain ⟨k, hk, rfl, hE⟩ := hrel
    by_cases hlt : k < ll.length
    · obtain ⟨g, off, si, ci, rfl, hg, c1, L1, _⟩ := (HA.out.ext hE).at hlt
      obtain ⟨g2, off2, sj, cj, rfl, hg2, c2, L2, _⟩ := (HB.out.ext hE).at hlt
      have hli := HI.out k hlt
      obtain ⟨x, hx⟩ : ∃ x, x = ll.getD k [] := ⟨_, rfl⟩; rw [← hx] at c1 c2 L1 L2 hli
      clear hx
      have k1 := cell_regrown c1
      have k2 := cell_regrown c2
      have H1 := hide L1; clear L1
      have H2 := hide L2; clear L2
      go_wp2
      refine wp_region_quiet_below (by kernel_rfl) (by kernel_rfl) ?_
      repeat (go_big_quiet_step ((first | (go_at_call 24; exact Calls.regrown_of (eqIntS_same si sj x ci cj _ (H1.out.ext (below_regrown _ _ _)) (H2.out.ext (below_regrown _ _ _)) hli)))))
      refine wpQuiet_nil ?_; intro w2 hq; have E2 := Ext.class hq; clear hq
      clear k1 k2 c1 c2
      go_wp2
      go_roundw
      case rel => exact ⟨k + 1, by omega, by go_num, hE.trans E2⟩
      case measure => simp [intOf]; omega
    · go_wp2
      go_ret
      exact Ret.bool rfl hE

/-- how many numbers the first lists have -/
def offs (ll : List (List Int)) : Nat → Nat
  | 0 => 0
  | k + 1 => offs ll k + (ll.getD k []).length
/-- the lists when their numbers are marked -/
def marksM (m : Int) (ll : List (List Int)) : List (List Int) := (List.range ll.length).map fun i => marks (m + (offs ll i : Int)) (ll.getD i []).length
theorem marksM_len (m : Int) (ll : List (List Int)) : (marksM m ll).length = ll.length := by simp [marksM]
theorem marksM_at (m : Int) (ll : List (List Int)) (i : Nat) (h : i < ll.length) : (marksM m ll).getD i [] = marks (m + (offs ll i : Int)) (ll.getD i []).length := by
  simp [marksM, List.getD_eq_getElem?_getD, h]

set_option maxHeartbeats 1000000 in
theorem heldIntSS_any (sa : Option Addr) (ca : Nat) (ll : List (List Int)) (m : Int) (w : World) (ha : Mst w sa (marksM m ll)) (hl : ll.length ≤ 2000000) (ho : ∀ i, i ≤ ll.length → offs ll i ≤ 1100000) (hm0 : 0 ≤ m) (hm : m ≤ 800000) :
    Calls Try.prog 32 #[.slice sa ll.length ca, .int .i64 m] w (Same (.int .i64 (m + (offs ll ll.length : Int))) w) := by
  have HA := hide ha; clear ha
  have HO := hide ho; clear ho
  go_enter Try.func32, Try.ntmps32
  go_wp2
  go_loop [1, 5] (fun a i => ∃ k : Nat, k ≤ ll.length ∧ i = .int .i64 k ∧ a = .int .i64 (m + (offs ll k : Int))) (fun _ i => ll.length - (intOf i).toNat)
  case atStart => exact ⟨0, Nat.zero_le _, rfl, by simp [offs]⟩
  case round =>
    obtain ⟨k, hk, rfl, rfl⟩ := hrel
    by_cases hlt : k < ll.length
    · obtain ⟨g, off, si, ci, rfl, hg, c1, L1, _⟩ := HA.out.at (i := k) (by rw [marksM_len]; exact hlt)
      rw [marksM_at m ll k hlt, marks_len] at c1
      rw [marksM_at m ll k hlt] at L1
      have hb := HO.out k hk
      have hb2 := HO.out (k + 1) (by omega)
      have HS := hide (show offs ll (k + 1) = offs ll k + (ll.getD k []).length from rfl)
      obtain ⟨n, hn⟩ : ∃ n, n = (ll.getD k []).length := ⟨_, rfl⟩; rw [← hn] at c1 L1 HS
      obtain ⟨q, hq⟩ : ∃ q, q = offs ll k := ⟨_, rfl⟩; rw [← hq] at L1 hb HS ⊢
      have H1 := hide L1; clear L1
      clear hn hq
      have hqn : q + n ≤ 1100000 := by rw [← HS.out]; exact hb2
      clear hb2
      go_wp2_with fail; refine (heldIntS_any si ci n (m + (q : Int)) _ H1.out (by omega) (by omega) (by omega)).mono ?_; rintro e w' ⟨rfl, rfl⟩
      go_wp2
      go_round
      case rel => exact ⟨k + 1, by omega, by go_num, by rw [HS.out, Int.natCast_add, Int.add_assoc]⟩
      case measure => simp [intOf]; omega
    · obtain rfl : k = ll.length := by omega
      go_wp2
      go_ret
      exact Same.int rfl

theorem Mid.mono {lo hi lo' hi' : Nat} {w w' : World} (h : Mid lo hi w w') (h1 : lo' ≤ lo) (h2 : hi ≤ hi') : Mid lo' hi' w w' :=
  ⟨h.os, h.tape, h.output, h.size, fun k hk hg => h.block k hk (by omega)⟩
theorem Lst.mid {lo hi : Nat} {w w' : World} {sa : Option Addr} {l : List Int} (h : Lst w sa l) (m : Mid lo hi w w') (hn : ∀ a, sa = some a → a.block < lo ∨ hi ≤ a.block) : Lst w' sa l := by
  rcases h with h | ⟨g, off, h1, h2, h3⟩
  · exact .inl h
  · have hg := hn _ h1
    exact .inr ⟨g, off, h1, Nat.lt_of_lt_of_le h2 m.size, fun i hi => (World.cell?_of_block (a := ⟨g, off + i, none⟩) (m.block g h2 hg)).trans (h3 i hi)⟩
theorem Row.mid {lo hi base : Nat} {w w' : World} {sa : Option Addr} {cap : Nat} {l : List Int} (r : Row base w sa cap l) (m : Mid lo hi w w') (hn : ∀ a, sa = some a → a.block < lo ∨ hi ≤ a.block) : Row base w' sa cap l := by
  obtain ⟨h1, h2⟩ := r
  refine ⟨h1, ?_⟩
  rcases h2 with h2 | ⟨g, c, cur, h2, h3, h4, h5⟩
  · exact .inl h2
  · have e : sa = some ⟨g, 0, none⟩ := by simp only [Value.slice.injEq] at h2; exact h2.1
    exact .inr ⟨g, c, cur, h2, h3, (m.block g (size_of_heap h4) (hn _ e)).trans h4, h5⟩
/-- the block of a row -/
def bk (sa : Option Addr) : Nat := match sa with | none => 0 | some a => a.block
def bk1 (sa : Option Addr) : Nat := match sa with | none => 0 | some a => a.block + 1
theorem Row.self {base : Nat} {w : World} {sa : Option Addr} {cap : Nat} {l : List Int} (r : Row base w sa cap l) : Row (bk sa) w sa cap l := by
  obtain ⟨h1, h2⟩ := r
  refine ⟨h1, ?_⟩
  rcases h2 with h2 | ⟨g, c, cur, h2, h3, h4, h5⟩
  · exact .inl h2
  · have e : sa = some ⟨g, 0, none⟩ := by simp only [Value.slice.injEq] at h2; exact h2.1
    subst e
    exact .inr ⟨g, c, cur, h2, Nat.le_refl _, h4, h5⟩
def MarkMatRet (lo hi : Nat) (sa : Option Addr) (m : Int) (ll : List (List Int)) (w : World) (e : Ending) (w' : World) : Prop :=
  e = .returned (.int .i64 (m + (offs ll ll.length : Int))) ∧ Mst w' sa (marksM m ll) ∧ Mid lo hi w w'

set_option maxHeartbeats 2000000 in
theorem markIntSS_mid (lo hi : Nat) (sa : Option Addr) (cap : Nat) (ll : List (List Int)) (hs : Heads) (m : Int) (w : World) (M : Mat lo w sa cap ll hs) (hh : ∀ i a, i < ll.length → (hs.getD i (none, 0)).1 = some a → a.block < hi) (hl : ll.length ≤ 2000000) (ho : ∀ i, i ≤ ll.length → offs ll i ≤ 1100000) (hm0 : 0 ≤ m) (hm : m ≤ 800000) :
    Calls Try.prog 31 #[.slice sa ll.length cap, .int .i64 m] w (MarkMatRet lo hi sa m ll w) := by
  rcases M.form with ⟨rfl, rfl⟩ | ⟨g, cur, rfl, hg0, hgb, hcur⟩
  · clear M
    go_enter Try.func31, Try.ntmps31
    go_wp2
    go_loopw [1, 5] (fun k i wr => i = .int .i64 0 ∧ k = .int .i64 m ∧ w = wr) (fun _ _ _ => 0)
    case atStart => exact ⟨rfl, rfl, rfl⟩
    case round =>
      obtain ⟨rfl, rfl, rfl⟩ := hrel
      go_wp2
      go_ret
      exact ⟨ret_int (by simp [offs]), .inl rfl, Mid.refl _ _ _⟩
  · have Mo := hide M.out
    have Ms := hide M.sep
    have Mr := hide M.row
    have HH := hide hh
    have HO := hide ho
    have HC := hide hcur
    have HGB := hide hgb
    have hgs := size_of_heap hgb
    clear M hh ho hcur hgb
    go_enter Try.func31, Try.ntmps31
    go_wp2
    go_loopw [1, 5] (fun a i wr => ∃ k : Nat, k ≤ ll.length ∧ i = .int .i64 k ∧ a = .int .i64 (m + (offs ll k : Int)) ∧ Hid (wr.heap[g]? = some (.cells cur 22 (0, 0))) ∧ Hid (∀ j, j < k → Lst wr (hs.getD j (none, 0)).1 (marks (m + (offs ll j : Int)) (ll.getD j []).length)) ∧ Hid (∀ j, k ≤ j → j < ll.length → Row lo wr (hs.getD j (none, 0)).1 (hs.getD j (none, 0)).2 (ll.getD j [])) ∧ Mid lo hi w wr) (fun _ i _ => ll.length - (intOf i).toNat)
    case atStart => exact ⟨0, Nat.zero_le _, rfl, by simp [offs], HGB, (show ∀ j, j < 0 → _ from fun j hj => by omega), (show ∀ j, 0 ≤ j → j < ll.length → _ from fun j _ hj => Mr.out j hj), Mid.refl _ _ _⟩
    case round =>
      obtain ⟨k, hk, rfl, rfl, HG, HL, HR, hM⟩ := hrel
      by_cases hlt : k < ll.length
      · have c1 : wr.cell? ⟨g, k, none⟩ = some (hcell (hs.getD k (none, 0)) (ll.getD k [])) := by rw [cell_of_block HG.out]; exact HC.out k hlt
        have r := HR.out k (Nat.le_refl _) hlt
        have rb := fun a (h : (hs.getD k (none, 0)).1 = some a) => r.block_lt h
        have hka := HH.out k
        have hb := HO.out k hk
        have hb2 := HO.out (k + 1) (by omega)
        have HS := hide (show offs ll (k + 1) = offs ll k + (ll.getD k []).length from rfl)
        have sepk := hide (fun j (hj : j < ll.length) (hjk : j ≠ k) a b (ha : (hs.getD j (none, 0)).1 = some a) (hb : (hs.getD k (none, 0)).1 = some b) => Ms.out j k a b hj hlt hjk ha hb)
        have outk := hide (fun b (hb : (hs.getD k (none, 0)).1 = some b) => Mo.out k b _ hlt hb rfl)
        have HI := hide (show ∀ x, x = ll.getD k [] → k < ll.length → x = ll.getD k [] from fun x h _ => h)
        unfold hcell at c1
        obtain ⟨x, hx⟩ : ∃ x, x = ll.getD k [] := ⟨_, rfl⟩; rw [← hx] at c1 r HS
        have HXL := hide (show x.length = (ll.getD k []).length by rw [hx])
        clear hx HI
        obtain ⟨hd, hhd⟩ : ∃ hd, hd = hs.getD k (none, 0) := ⟨_, rfl⟩; rw [← hhd] at c1 r rb hka sepk outk
        have HHD := hide hhd
        clear hhd
        obtain ⟨si, ci⟩ := hd
        obtain ⟨q, hq⟩ : ∃ q, q = offs ll k := ⟨_, rfl⟩; rw [← hq] at hb HS ⊢
        have HQ := hide hq
        clear hq
        have hqn : q + x.length ≤ 1100000 := by rw [← HS.out]; exact hb2
        clear hb2
        have rs := r.self
        have RR := hide r; clear r
        have RB := hide rb; clear rb
        have HKA := hide hka; clear hka
        go_wp2_with fail; refine (markIntS_mid (bk si) (bk1 si) si ci x (m + (q : Int)) _ rs (fun g off h => by rw [h]; exact Nat.lt_succ_self _) (by omega) (by omega) (by omega)).mono ?_; rintro e w2 ⟨rfl, L2, M2⟩
        have hM2 : Mid lo hi w w2 := hM.trans (by
          cases hsi : si with
          | none => rw [hsi] at M2; exact ⟨M2.os, M2.tape, M2.output, M2.size, fun k hk _ => M2.block k hk (.inr (Nat.zero_le _))⟩
          | some a =>
            have h1 := (RB.out a hsi).1
            have h2 := HKA.out a hlt hsi
            rw [hsi] at M2
            exact M2.mono h1 h2)
        have away : ∀ b : Nat, (∀ a, si = some a → a.block ≠ b) → (b < bk si ∨ bk1 si ≤ b) := by
          intro b hb
          cases hsi : si with
          | none => right; exact Nat.zero_le _
          | some a => have := hb a hsi; show b < a.block ∨ a.block + 1 ≤ b; omega
        have HG2 := hide (show w2.heap[g]? = some (.cells cur 22 (0, 0)) from (M2.block g (size_of_heap HG.out) (away g fun a ha => outk.out a ha)).trans HG.out)
        have HL2 := hide (show ∀ j, j < k + 1 → Lst w2 (hs.getD j (none, 0)).1 (marks (m + (offs ll j : Int)) (ll.getD j []).length) from fun j hj => by
          by_cases e : j = k
          · subst e; rw [← HHD.out, ← HQ.out, ← HXL.out]; exact L2
          · exact (HL.out j (by omega)).mid M2 fun b hb => away b.block fun a ha e2 => sepk.out j (by omega) e b a hb ha e2.symm)
        have HR2 := hide (show ∀ j, k + 1 ≤ j → j < ll.length → Row lo w2 (hs.getD j (none, 0)).1 (hs.getD j (none, 0)).2 (ll.getD j []) from fun j hj hjl =>
          (HR.out j (by omega) hjl).mid M2 fun b hb => away b.block fun a ha e2 => sepk.out j hjl (by omega) b a hb ha e2.symm)
        clear away M2
        go_wp2
        go_roundw
        case rel => exact ⟨k + 1, by omega, by go_num, by rw [HS.out, Int.natCast_add, Int.add_assoc], HG2, HL2, HR2, hM2⟩
        case measure => simp [intOf]; omega
      · obtain rfl : k = ll.length := by omega
        go_wp2
        go_ret
        refine ⟨rfl, .inr ⟨g, 0, rfl, size_of_heap HG.out, fun i hi => ?_⟩, hM⟩
        rw [marksM_len] at hi
        rw [marksM_at m ll i hi, marks_len, Nat.zero_add, cell_of_block HG.out, HC.out i hi]
        exact ⟨_, _, rfl, HL.out i hi, (Mr.out i hi).cap⟩
theorem Mid.owns {lo hi base : Nat} {w w' : World} {T : TypeId} {v : Value} {n : Nat} {xs : List Value} (m : Mid lo hi w w') (h : w.ownsRow base T 1 v n xs) (hb : hi ≤ base) : w'.ownsRow base T 1 v n xs := by
  obtain ⟨h1, h2⟩ := h
  refine ⟨h1, ?_⟩
  rcases h2 with h2 | ⟨g, c, cur, h2, h3, h4, h5⟩
  · exact .inl h2
  · exact .inr ⟨g, c, cur, h2, h3, (m.block g (size_of_heap h4) (.inr (Nat.le_trans hb h3))).trans h4, h5⟩
theorem Mid.mat {lo hi base : Nat} {w w' : World} {sa : Option Addr} {cap : Nat} {ll : List (List Int)} {hs : Heads} (m : Mid lo hi w w') (M : Mat base w sa cap ll hs) (hb : hi ≤ base) : Mat base w' sa cap ll hs :=
  ⟨M.len, m.owns M.own hb, fun i hi => m.row (M.row i hi) hb, M.sep, M.out⟩
theorem Mat.inside {base : Nat} {w : World} {sa : Option Addr} {cap : Nat} {ll : List (List Int)} {hs : Heads} (M : Mat base w sa cap ll hs) : ∀ i a, i < ll.length → (hs.getD i (none, 0)).1 = some a → a.block < w.heap.size :=
  fun i a hi ha => ((M.row i hi).block_lt ha).2
end Go.Proofs.Ytgmhodmgbhpdaac
