/- The arguments that chapter 2's laws on bodies draw. -/
import Derived.Test.YtjdfdikifiljjabDrawD
namespace Go.Proofs.Ytjdfdikifiljjab
open Go.ChangeShapes Go.WideShapes Go.ChangeAt Go.RowKit Go.Joins
set_option linter.unusedVariables false

/-- bodies, and what is drawn beside them -/
def BOut (w : World) (e : Ending) (w' : World) : Prop :=
  ∃ (sa : Option Addr) (cap : Nat) (l : List Int) (need : Int), e = .returned (.agg #[.slice sa l.length cap, .int .i64 need]) ∧ Row w.heap.size w' sa cap l ∧ 1 ≤ l.length ∧ l.length ≤ 9 ∧ (∀ x ∈ l, -1 ≤ x ∧ x ≤ 101) ∧ -100000 ≤ need ∧ need ≤ 100000 ∧ Ext w w'
def BIIOut (w : World) (e : Ending) (w' : World) : Prop :=
  ∃ (sa : Option Addr) (cap : Nat) (l : List Int) (need i k : Int), e = .returned (.tuple #[.agg #[.slice sa l.length cap, .int .i64 need], .int .i64 i, .int .i64 k]) ∧ Row w.heap.size w' sa cap l ∧ 1 ≤ l.length ∧ l.length ≤ 9 ∧ (∀ x ∈ l, -1 ≤ x ∧ x ≤ 101) ∧ -100000 ≤ need ∧ need ≤ 100000 ∧ -1 ≤ i ∧ i ≤ 9 ∧ -1 ≤ k ∧ k ≤ 9 ∧ Ext w w'
def BMOut (w : World) (e : Ending) (w' : World) : Prop :=
  ∃ (sa : Option Addr) (cap : Nat) (l : List Int) (need : Int) (sm : Option Addr) (cm : Nat) (m : List Int), e = .returned (.tuple #[.agg #[.slice sa l.length cap, .int .i64 need], .slice sm m.length cm]) ∧ Row w.heap.size w' sa cap l ∧ 1 ≤ l.length ∧ l.length ≤ 9 ∧ (∀ x ∈ l, -1 ≤ x ∧ x ≤ 101) ∧ -100000 ≤ need ∧ need ≤ 100000 ∧ Row w.heap.size w' sm cm m ∧ m.length ≤ 10 ∧ Ext w w'
def BMIOut (w : World) (e : Ending) (w' : World) : Prop :=
  ∃ (sa : Option Addr) (cap : Nat) (l : List Int) (need : Int) (sm : Option Addr) (cm : Nat) (m : List Int) (i : Int), e = .returned (.tuple #[.agg #[.slice sa l.length cap, .int .i64 need], .slice sm m.length cm, .int .i64 i]) ∧ Row w.heap.size w' sa cap l ∧ 1 ≤ l.length ∧ l.length ≤ 9 ∧ (∀ x ∈ l, -1 ≤ x ∧ x ≤ 101) ∧ -100000 ≤ need ∧ need ≤ 100000 ∧ Row w.heap.size w' sm cm m ∧ m.length ≤ 10 ∧ -1 ≤ i ∧ i ≤ 4 ∧ Ext w w'
def BMIBOut (w : World) (e : Ending) (w' : World) : Prop :=
  ∃ (sa : Option Addr) (cap : Nat) (l : List Int) (need : Int) (sm : Option Addr) (cm : Nat) (m : List Int) (i : Int) (s : Bool), e = .returned (.tuple #[.agg #[.slice sa l.length cap, .int .i64 need], .slice sm m.length cm, .int .i64 i, .bool s]) ∧ Row w.heap.size w' sa cap l ∧ 1 ≤ l.length ∧ l.length ≤ 9 ∧ (∀ x ∈ l, -1 ≤ x ∧ x ≤ 101) ∧ -100000 ≤ need ∧ need ≤ 100000 ∧ Row w.heap.size w' sm cm m ∧ m.length ≤ 10 ∧ -100000 ≤ i ∧ i ≤ 100000 ∧ Ext w w'



set_option maxRecDepth 100000 in
set_option maxHeartbeats 400000 in
theorem dDrawLeastCoalitions (sa : Option Addr) (len cap : Nat) (w : World) (h : Code w sa len cap) (hl : len ≤ maxLen) :
    Calls Try.prog 37 #[.slice sa len cap] w (BOut w) := by
  have h1 := h.keep ((Below.refl _ _).alloc (Nat.le_refl _) (.cells #[.slice none 0 0, .int .i64 0] 28))
  go_enter Try.func37, Try.ntmps37
  go_wp2_with fail
  refine (newReader_any _ _ _ _ h1 hl).mono ?_
  rintro e w1 ⟨rfl, hr1, hb1, hs1⟩
  have hY1 : Box w1 w.heap.size #[.slice none 0 0, .int .i64 0] 28 := (Box.new w _ _).below hb1 (by simp)
  have hE1 : Ext w w1 := ((Ext.refl w).alloc _).below hb1 (by simp)
  have hB1 : But (w.heap.size + 1) w w1 := But.of_below hE1
  simp at hr1
  clear hb1 hs1 h1 h hE1
  go_wp2_with fail
  refine (anyBody_any (w.heap.size + 1) (w.heap.size + 1) 0 _ hr1 (by omega)).mono ?_
  rintro e w2 ⟨sb, cb, l, need, rfl, hR2, l1, l2, hx, m0, m1, ⟨q, hq, hr2⟩, hb2⟩
  have hl1 := hr1.lt
  have hY2 := hY1.but hb2 (by omega)
  have hB2 := hB1.trans hb2
  have hz2 : w1.heap.size ≤ w2.heap.size := hb2.size
  replace hR2 : Row w1.heap.size w2 sb cb l := hR2
  have HX := hide hx; clear hx
  clear hb2 hr1 hY1 hB1
  obtain ⟨b0, b1, b2, b3⟩ := hY2.two
  go_wp2
  have EE := Ext.of ((((hB2).put w.heap.size 0 (.slice sb l.length cb) (by omega)).put w.heap.size 1 (.int .i64 need) (by omega)).to_below (B := w.heap.size) (by omega) (Nat.le_refl _))
  refine bodyPost_ret (v := .agg #[.slice sb l.length cb, .int .i64 need]) (by simp [results, Try.results37, go_sem, b0, b1]) rfl ?_
  exact ⟨sb, cb, l, need, rfl, ((hR2.put (by omega) _ _).put (by omega) _ _).le (by omega), l1, l2, HX.out, m0, m1, EE⟩

set_option maxRecDepth 100000 in
set_option maxHeartbeats 400000 in
theorem dDrawSwingsOf (sa : Option Addr) (len cap : Nat) (w : World) (h : Code w sa len cap) (hl : len ≤ maxLen) :
    Calls Try.prog 51 #[.slice sa len cap] w (BOut w) := by
  have h1 := h.keep ((Below.refl _ _).alloc (Nat.le_refl _) (.cells #[.slice none 0 0, .int .i64 0] 28))
  go_enter Try.func51, Try.ntmps51
  go_wp2_with fail
  refine (newReader_any _ _ _ _ h1 hl).mono ?_
  rintro e w1 ⟨rfl, hr1, hb1, hs1⟩
  have hY1 : Box w1 w.heap.size #[.slice none 0 0, .int .i64 0] 28 := (Box.new w _ _).below hb1 (by simp)
  have hE1 : Ext w w1 := ((Ext.refl w).alloc _).below hb1 (by simp)
  have hB1 : But (w.heap.size + 1) w w1 := But.of_below hE1
  simp at hr1
  clear hb1 hs1 h1 h hE1
  go_wp2_with fail
  refine (anyBody_any (w.heap.size + 1) (w.heap.size + 1) 0 _ hr1 (by omega)).mono ?_
  rintro e w2 ⟨sb, cb, l, need, rfl, hR2, l1, l2, hx, m0, m1, ⟨q, hq, hr2⟩, hb2⟩
  have hl1 := hr1.lt
  have hY2 := hY1.but hb2 (by omega)
  have hB2 := hB1.trans hb2
  have hz2 : w1.heap.size ≤ w2.heap.size := hb2.size
  replace hR2 : Row w1.heap.size w2 sb cb l := hR2
  have HX := hide hx; clear hx
  clear hb2 hr1 hY1 hB1
  obtain ⟨b0, b1, b2, b3⟩ := hY2.two
  go_wp2
  have EE := Ext.of ((((hB2).put w.heap.size 0 (.slice sb l.length cb) (by omega)).put w.heap.size 1 (.int .i64 need) (by omega)).to_below (B := w.heap.size) (by omega) (Nat.le_refl _))
  refine bodyPost_ret (v := .agg #[.slice sb l.length cb, .int .i64 need]) (by simp [results, Try.results51, go_sem, b0, b1]) rfl ?_
  exact ⟨sb, cb, l, need, rfl, ((hR2.put (by omega) _ _).put (by omega) _ _).le (by omega), l1, l2, HX.out, m0, m1, EE⟩

set_option maxRecDepth 100000 in
set_option maxHeartbeats 400000 in
theorem dDrawPivotsOf (sa : Option Addr) (len cap : Nat) (w : World) (h : Code w sa len cap) (hl : len ≤ maxLen) :
    Calls Try.prog 52 #[.slice sa len cap] w (BOut w) := by
  have h1 := h.keep ((Below.refl _ _).alloc (Nat.le_refl _) (.cells #[.slice none 0 0, .int .i64 0] 28))
  go_enter Try.func52, Try.ntmps52
  go_wp2_with fail
  refine (newReader_any _ _ _ _ h1 hl).mono ?_
  rintro e w1 ⟨rfl, hr1, hb1, hs1⟩
  have hY1 : Box w1 w.heap.size #[.slice none 0 0, .int .i64 0] 28 := (Box.new w _ _).below hb1 (by simp)
  have hE1 : Ext w w1 := ((Ext.refl w).alloc _).below hb1 (by simp)
  have hB1 : But (w.heap.size + 1) w w1 := But.of_below hE1
  simp at hr1
  clear hb1 hs1 h1 h hE1
  go_wp2_with fail
  refine (anyBody_any (w.heap.size + 1) (w.heap.size + 1) 0 _ hr1 (by omega)).mono ?_
  rintro e w2 ⟨sb, cb, l, need, rfl, hR2, l1, l2, hx, m0, m1, ⟨q, hq, hr2⟩, hb2⟩
  have hl1 := hr1.lt
  have hY2 := hY1.but hb2 (by omega)
  have hB2 := hB1.trans hb2
  have hz2 : w1.heap.size ≤ w2.heap.size := hb2.size
  replace hR2 : Row w1.heap.size w2 sb cb l := hR2
  have HX := hide hx; clear hx
  clear hb2 hr1 hY1 hB1
  obtain ⟨b0, b1, b2, b3⟩ := hY2.two
  go_wp2
  have EE := Ext.of ((((hB2).put w.heap.size 0 (.slice sb l.length cb) (by omega)).put w.heap.size 1 (.int .i64 need) (by omega)).to_below (B := w.heap.size) (by omega) (Nat.le_refl _))
  refine bodyPost_ret (v := .agg #[.slice sb l.length cb, .int .i64 need]) (by simp [results, Try.results52, go_sem, b0, b1]) rfl ?_
  exact ⟨sb, cb, l, need, rfl, ((hR2.put (by omega) _ _).put (by omega) _ _).le (by omega), l1, l2, HX.out, m0, m1, EE⟩

set_option maxRecDepth 100000 in
set_option maxHeartbeats 400000 in
theorem dDrawDummies (sa : Option Addr) (len cap : Nat) (w : World) (h : Code w sa len cap) (hl : len ≤ maxLen) :
    Calls Try.prog 49 #[.slice sa len cap] w (BOut w) := by
  have h1 := h.keep ((Below.refl _ _).alloc (Nat.le_refl _) (.cells #[.slice none 0 0, .int .i64 0] 28))
  go_enter Try.func49, Try.ntmps49
  go_wp2_with fail
  refine (newReader_any _ _ _ _ h1 hl).mono ?_
  rintro e w1 ⟨rfl, hr1, hb1, hs1⟩
  have hY1 : Box w1 w.heap.size #[.slice none 0 0, .int .i64 0] 28 := (Box.new w _ _).below hb1 (by simp)
  have hE1 : Ext w w1 := ((Ext.refl w).alloc _).below hb1 (by simp)
  have hB1 : But (w.heap.size + 1) w w1 := But.of_below hE1
  simp at hr1
  clear hb1 hs1 h1 h hE1
  go_wp2_with fail
  refine (anyBody_any (w.heap.size + 1) (w.heap.size + 1) 0 _ hr1 (by omega)).mono ?_
  rintro e w2 ⟨sb, cb, l, need, rfl, hR2, l1, l2, hx, m0, m1, ⟨q, hq, hr2⟩, hb2⟩
  have hl1 := hr1.lt
  have hY2 := hY1.but hb2 (by omega)
  have hB2 := hB1.trans hb2
  have hz2 : w1.heap.size ≤ w2.heap.size := hb2.size
  replace hR2 : Row w1.heap.size w2 sb cb l := hR2
  have HX := hide hx; clear hx
  clear hb2 hr1 hY1 hB1
  obtain ⟨b0, b1, b2, b3⟩ := hY2.two
  go_wp2
  have EE := Ext.of ((((hB2).put w.heap.size 0 (.slice sb l.length cb) (by omega)).put w.heap.size 1 (.int .i64 need) (by omega)).to_below (B := w.heap.size) (by omega) (Nat.le_refl _))
  refine bodyPost_ret (v := .agg #[.slice sb l.length cb, .int .i64 need]) (by simp [results, Try.results49, go_sem, b0, b1]) rfl ?_
  exact ⟨sb, cb, l, need, rfl, ((hR2.put (by omega) _ _).put (by omega) _ _).le (by omega), l1, l2, HX.out, m0, m1, EE⟩

set_option maxRecDepth 100000 in
set_option maxHeartbeats 400000 in
theorem dDrawVetoes (sa : Option Addr) (len cap : Nat) (w : World) (h : Code w sa len cap) (hl : len ≤ maxLen) :
    Calls Try.prog 46 #[.slice sa len cap] w (BOut w) := by
  have h1 := h.keep ((Below.refl _ _).alloc (Nat.le_refl _) (.cells #[.slice none 0 0, .int .i64 0] 28))
  go_enter Try.func46, Try.ntmps46
  go_wp2_with fail
  refine (newReader_any _ _ _ _ h1 hl).mono ?_
  rintro e w1 ⟨rfl, hr1, hb1, hs1⟩
  have hY1 : Box w1 w.heap.size #[.slice none 0 0, .int .i64 0] 28 := (Box.new w _ _).below hb1 (by simp)
  have hE1 : Ext w w1 := ((Ext.refl w).alloc _).below hb1 (by simp)
  have hB1 : But (w.heap.size + 1) w w1 := But.of_below hE1
  simp at hr1
  clear hb1 hs1 h1 h hE1
  go_wp2_with fail
  refine (anyBody_any (w.heap.size + 1) (w.heap.size + 1) 0 _ hr1 (by omega)).mono ?_
  rintro e w2 ⟨sb, cb, l, need, rfl, hR2, l1, l2, hx, m0, m1, ⟨q, hq, hr2⟩, hb2⟩
  have hl1 := hr1.lt
  have hY2 := hY1.but hb2 (by omega)
  have hB2 := hB1.trans hb2
  have hz2 : w1.heap.size ≤ w2.heap.size := hb2.size
  replace hR2 : Row w1.heap.size w2 sb cb l := hR2
  have HX := hide hx; clear hx
  clear hb2 hr1 hY1 hB1
  obtain ⟨b0, b1, b2, b3⟩ := hY2.two
  go_wp2
  have EE := Ext.of ((((hB2).put w.heap.size 0 (.slice sb l.length cb) (by omega)).put w.heap.size 1 (.int .i64 need) (by omega)).to_below (B := w.heap.size) (by omega) (Nat.le_refl _))
  refine bodyPost_ret (v := .agg #[.slice sb l.length cb, .int .i64 need]) (by simp [results, Try.results46, go_sem, b0, b1]) rfl ?_
  exact ⟨sb, cb, l, need, rfl, ((hR2.put (by omega) _ _).put (by omega) _ _).le (by omega), l1, l2, HX.out, m0, m1, EE⟩


set_option maxRecDepth 100000 in
set_option maxHeartbeats 400000 in
theorem dDrawWins (sa : Option Addr) (len cap : Nat) (w : World) (h : Code w sa len cap) (hl : len ≤ maxLen) :
    Calls Try.prog 42 #[.slice sa len cap] w (BMOut w) := by
  have h1 := h.keep ((Below.refl _ _).alloc (Nat.le_refl _) (.cells #[.slice none 0 0, .int .i64 0] 28))
  go_enter Try.func42, Try.ntmps42
  go_wp2_with fail
  refine (newReader_any _ _ _ _ h1 hl).mono ?_
  rintro e w1 ⟨rfl, hr1, hb1, hs1⟩
  have hY1 : Box w1 w.heap.size #[.slice none 0 0, .int .i64 0] 28 := (Box.new w _ _).below hb1 (by simp)
  have hE1 : Ext w w1 := ((Ext.refl w).alloc _).below hb1 (by simp)
  have hB1 : But (w.heap.size + 1) w w1 := But.of_below hE1
  simp at hr1
  clear hb1 hs1 h1 h hE1
  go_wp2_with fail
  refine (anyBody_any (w.heap.size + 1) (w.heap.size + 1) 0 _ hr1 (by omega)).mono ?_
  rintro e w2 ⟨sb, cb, l, need, rfl, hR2, l1, l2, hx, m0, m1, ⟨q, hq, hr2⟩, hb2⟩
  have hl1 := hr1.lt
  have hY2 := hY1.but hb2 (by omega)
  have hB2 := hB1.trans hb2
  have hz2 : w1.heap.size ≤ w2.heap.size := hb2.size
  replace hR2 : Row w1.heap.size w2 sb cb l := hR2
  have HX := hide hx; clear hx
  clear hb2 hr1 hY1 hB1
  go_wp2
  have hX2 := Box.new w2 #[.slice sb l.length cb, .int .i64 need] 28
  have hY2 := hY2.push (.cells #[.slice sb l.length cb, .int .i64 need] 28)
  have hR2 := hR2.ext ((Ext.refl _).alloc (.cells #[.slice sb l.length cb, .int .i64 need] 28))
  have hB2 := hB2.alloc (.cells #[.slice sb l.length cb, .int .i64 need] 28)
  have hr2 := hr2.alloc (.cells #[.slice sb l.length cb, .int .i64 need] 28)
  refine wp_region_held_drew (S := (fun w' => w'.cell? ⟨w2.heap.size, 0, none⟩ = some (.slice sb l.length cb) ∧ w'.cell? ⟨w2.heap.size, 1, none⟩ = some (.int .i64 need))) (by kernel_rfl) (by first | exact ⟨(hX2.drew).two.1, (hX2.drew).two.2.1⟩) (fun hHeld => ?_)
  refine wpAnyH_take (i := 0) (oi := _) (v := ?_) rfl (by kernel_rfl) (by kernel_rfl) (by kernel_rfl) (fun _ _ _ h => h) (Or.inl ⟨by rfl, ?_⟩) (by assumption) ?_
  rotate_left
  · (intro w hSw; (try dsimp only at hSw); (try obtain ⟨hS0, hS1⟩ := hSw); go_simp; (try with_reducible rfl))
  (try simp only [List.getElem_toArray, List.getElem_cons_zero, Act.put, List.setIfInBounds_toArray, List.set_cons_zero, List.set_cons_succ])
  refine wpAnyH_take (i := 1) (oi := _) (v := ?_) rfl (by kernel_rfl) (by kernel_rfl) (by kernel_rfl) (fun _ _ _ h => h) (Or.inl ⟨by rfl, ?_⟩) (by assumption) ?_
  rotate_left
  · (intro w hSw; (try dsimp only at hSw); (try obtain ⟨hS0, hS1⟩ := hSw); go_simp; (try with_reducible rfl))
  (try simp only [List.getElem_toArray, List.getElem_cons_succ, List.getElem_cons_zero, Act.put, List.setIfInBounds_toArray, List.set_cons_zero, List.set_cons_succ])
  refine wpAnyH_take (i := 2) (oi := _) (v := ?_) rfl (by kernel_rfl) (by kernel_rfl) (by kernel_rfl) (fun _ _ _ h => h) (Or.inl ⟨by rfl, ?_⟩) (by assumption) ?_
  rotate_left
  · (intro w hSw; (try dsimp only at hSw); (try obtain ⟨hS0, hS1⟩ := hSw); go_simp; (try with_reducible rfl))
  (try simp only [List.getElem_toArray, List.getElem_cons_succ, List.getElem_cons_zero, Act.put, List.setIfInBounds_toArray, List.set_cons_zero, List.set_cons_succ])
  refine wpAnyH_take (i := 3) (oi := _) (v := ?_) rfl (by kernel_rfl) (by kernel_rfl) (by kernel_rfl) (fun _ _ _ h => h) (Or.inl ⟨by rfl, ?_⟩) (by assumption) ?_
  rotate_left
  · (intro w hSw; (try dsimp only at hSw); (try obtain ⟨hS0, hS1⟩ := hSw); go_simp; (try with_reducible rfl))
  (try simp only [List.getElem_toArray, List.getElem_cons_succ, List.getElem_cons_zero, Act.put, List.setIfInBounds_toArray, List.set_cons_zero, List.set_cons_succ])
  refine wpAnyH_take (i := 4) (oi := _) (v := ?_) rfl (by kernel_rfl) (by kernel_rfl) (by kernel_rfl) (fun _ _ _ h => h) (Or.inl ⟨by rfl, ?_⟩) (by assumption) ?_
  rotate_left
  · (intro w hSw; (try dsimp only at hSw); (try obtain ⟨hS0, hS1⟩ := hSw); go_simp; (try with_reducible rfl))
  (try simp only [List.getElem_toArray, List.getElem_cons_succ, List.getElem_cons_zero, Act.put, List.setIfInBounds_toArray, List.set_cons_zero, List.set_cons_succ])
  refine wpAnyH_ready (rs := [5]) (by kernel_rfl) (by simp) ?_
  refine AllReadyH.cons (o := _) rfl (fun K hK => ?_) AllReadyH.nil
  go_simp
  refine (someMembers_any (w.heap.size + 1) (w.heap.size + 1) q l.length _ hr2.drew (by omega) (by omega)).mono ?_; rintro e w3 ⟨sm, cm, m, rfl, hM3, hml, ⟨q3, hq3, hr3⟩, hb3⟩
  refine hK.out _ _ (⟨(hX2.drew.but hb3 (by omega)).two.1, (hX2.drew.but hb3 (by omega)).two.2.1⟩) (fun hHeld => ?_); clear hK K
  (try simp only [List.getElem_toArray, List.getElem_cons_succ, List.getElem_cons_zero, Act.put, List.setIfInBounds_toArray, List.set_cons_zero, List.set_cons_succ])
  have hX3 := hX2.drew.but hb3 (by omega)
  have hY3 := hY2.drew.but hb3 (by omega)
  have hR3 := (hR2.ext (Ext.refl _).drew).but hb3 (by omega)
  have hB3 := hB2.drew.trans hb3
  have hM3 : Row (w2.heap.size + 1) w3 sm cm m := by simpa using hM3
  have hz3 : w2.heap.size + 1 ≤ w3.heap.size := by have := hX3.lt; omega
  obtain ⟨b0, b1, b2, b3⟩ := (hY3).two
  refine wpAnyH_ready (rs := [6]) (by kernel_rfl) (by simp) ?_
  refine AllReadyH.cons (o := _) rfl (fun K hK => ?_) AllReadyH.nil
  go_simp
  refine hK.out _ _ (⟨(((hX3).put (g := w.heap.size) (by omega) 0 (.slice sb l.length cb)).put (g := w.heap.size) (by omega) 1 (.int .i64 need)).two.1, (((hX3).put (g := w.heap.size) (by omega) 0 (.slice sb l.length cb)).put (g := w.heap.size) (by omega) 1 (.int .i64 need)).two.2.1⟩) (fun hHeld => ?_); clear hK K
  (try simp only [List.getElem_toArray, List.getElem_cons_succ, List.getElem_cons_zero, Act.put, List.setIfInBounds_toArray, List.set_cons_zero, List.set_cons_succ])
  refine wpAnyH_ready (rs := [7]) (by kernel_rfl) (by simp) ?_
  refine AllReadyH.cons (o := _) rfl (fun K hK => ?_) AllReadyH.nil
  go_simp
  refine hK.out _ _ (⟨(((hX3).put (g := w.heap.size) (by omega) 0 (.slice sb l.length cb)).put (g := w.heap.size) (by omega) 1 (.int .i64 need)).two.1, (((hX3).put (g := w.heap.size) (by omega) 0 (.slice sb l.length cb)).put (g := w.heap.size) (by omega) 1 (.int .i64 need)).two.2.1⟩) (fun hHeld => ?_); clear hK K
  (try simp only [List.getElem_toArray, List.getElem_cons_succ, List.getElem_cons_zero, Act.put, List.setIfInBounds_toArray, List.set_cons_zero, List.set_cons_succ])
  refine wpAnyH_done (by kernel_rfl) ?_ _
  go_wp2
  have EE := Ext.of ((((hB3).put w.heap.size 0 (.slice sb l.length cb) (by omega)).put w.heap.size 1 (.int .i64 need) (by omega)).to_below (B := w.heap.size) (by omega) (Nat.le_refl _))
  refine bodyPost_ret (v := .tuple #[.agg #[.slice sb l.length cb, .int .i64 need], .slice sm m.length cm]) (by simp [results, Try.results42, go_sem, b0, b1]) rfl ?_
  exact ⟨sb, cb, l, need, sm, cm, m, rfl, ((hR3.put (by omega) _ _).put (by omega) _ _).le (by omega), l1, l2, HX.out, m0, m1, ((hM3.put (by omega) _ _).put (by omega) _ _).le (by omega), by omega, EE⟩
end Go.Proofs.Ytjdfdikifiljjab
