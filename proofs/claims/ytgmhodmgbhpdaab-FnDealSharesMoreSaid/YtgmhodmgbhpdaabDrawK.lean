/- Chapter 4: the generator's coefficients, places and shares. -/
import Derived.Test.YtgmhodmgbhpdaabShr3
import Derived.Test.YtgmhodmgbhpdaabDrawB
import Derived.Deep.RegionHeld3
namespace Go.Proofs.Ytgmhodmgbhpdaab
open Go.ChangeShapes Go.WideShapes Go.ChangeAt Go.RowKit Go.Joins Go.Sort
set_option linter.unusedVariables false

/-- a list that was drawn -/
def LsOut (B g p k mx : Nat) (w : World) (e : Ending) (w' : World) : Prop :=
  ∃ (sa : Option Addr) (cap : Nat) (l : List Int), e = .returned (.slice sa l.length cap) ∧ Row w.heap.size w' sa cap l ∧ l.length ≤ mx ∧ (∀ x ∈ l, (-1 : Int) ≤ x ∧ x ≤ 300) ∧ (∃ q, q ≤ p + k ∧ Rdr B w' g q) ∧ But g w w'
/-- shares that were drawn -/
def ShOut (B g p k mx : Nat) (w : World) (e : Ending) (w' : World) : Prop :=
  ∃ (sa : Option Addr) (cap : Nat) (l : List Sh), e = .returned (.slice sa l.length cap) ∧ RowS w.heap.size w' sa cap l ∧ l.length ≤ mx ∧ (∃ q, q ≤ p + k ∧ Rdr B w' g q) ∧ But g w w'
theorem in_snoc {o : List Int} {x : Int} (h : ∀ y ∈ o, (-1 : Int) ≤ y ∧ y ≤ 300) (hx : (-1 : Int) ≤ x ∧ x ≤ 300) : ∀ y ∈ o ++ [x], (-1 : Int) ≤ y ∧ y ≤ 300 := fun y hy => by
  rcases List.mem_append.1 hy with hy | hy
  · exact h y hy
  · rw [List.mem_singleton.1 hy]; exact hx
theorem in_set {o : List Int} {x : Int} {i : Nat} (h : ∀ y ∈ o, (-1 : Int) ≤ y ∧ y ≤ 300) (hx : (-1 : Int) ≤ x ∧ x ≤ 300) : ∀ y ∈ o.set i x, (-1 : Int) ≤ y ∧ y ≤ 300 := fun y hy => by
  rcases List.mem_or_eq_of_mem_set hy with hy | hy
  · exact h y hy
  · rw [hy]; exact hx
theorem len_snocK {α : Type} (o : List α) (x : α) : o.length + 1 = (o ++ [x]).length := by simp
set_option maxHeartbeats 1000000 in
theorem someCoefs_any (B g p : Nat) (w : World) (hr : Rdr B w g p) (hp : p < 9000) :
    Calls Try.prog 61 #[.pointer (some ⟨g, 0, none⟩)] w (LsOut B g p 20 8 w) := by
  have hlt := hr.lt
  have hlow := hr.low
  have hr0 := hr.alloc (.cells #[] 3)
  have hB0 := (But.refl g w).alloc (.cells #[] 3)
  have R0 := Row.made w.heap.size w (Nat.le_refl _)
  go_enter Try.func61, Try.ntmps61
  go_wp2_with fail
  refine (one_at B g _ [3, 2, 4, 1, 0, 8] 0 8 _ _ _ _ (by simp) rfl hr0 (by omega) (by simp) (by simp) (by intro z hz; simp at hz; omega)).mono ?_
  rintro e w1 ⟨z, rfl, z0, z1, hr1, hb1, hs1⟩
  have hB1 := (hB0.alloc _).trans hb1
  have R1 := (R0.ext ((Ext.refl _).alloc _)).but hb1 hlt
  clear hs1 hb1 hr0 hB0 R0
  go_wp2
  go_loopw [3, 4] (fun v n wr => ∃ (z : Int) (q : Nat) (s2 : Option Addr) (c2 : Nat) (o : List Int), 0 ≤ z ∧ z ≤ 8 ∧ n = .int .i64 z ∧ v = .slice s2 o.length c2 ∧ (o.length : Int) + z ≤ 8 ∧ (q : Int) + 2 * z ≤ (p : Int) + 17 ∧ Hid (∀ x ∈ o, (-1 : Int) ≤ x ∧ x ≤ 300) ∧ Row w.heap.size wr s2 c2 o ∧ Rdr B wr g q ∧ But g w wr) (fun _ n _ => (intOf n).toNat)
  case atStart => exact ⟨z, p + 1, _, 0, [], z0, z1, rfl, rfl, by simp; omega, by omega, (show ∀ x ∈ ([] : List Int), (-1 : Int) ≤ x ∧ x ≤ 300 by simp), R1, hr1, hB1⟩
  case round =>
    clear R1 hr1 hB1 z0 z1
    obtain ⟨z, q, s2, c2, o, z0, z1, rfl, rfl, ho, hq, HX, hR, hr, hB⟩ := hrel
    by_cases hz : 0 < z
    · go_wp2_with fail
      refine (pick_pos B g _ 251 _ hr (by omega) (by omega)).mono ?_
      rintro e w2 ⟨u, rfl, u0, u1, hr2, hb2, hs2⟩
      have hR2 := hR.but hb2 hlt
      have hB2 := hB.trans hb2
      clear hs2 hb2
      go_wp2_with fail
      refine (one_at B g _ [u, 0, 250, 1] 0 250 _ _ _ _ rfl rfl hr2 (by omega) (by simp) (by simp) (by intro z hz; simp at hz; omega)).mono ?_
      rintro e w3 ⟨v, rfl, v0, v1, hr3, hb3, hs3⟩
      have hR3 := (hR2.ext ((Ext.refl _).alloc _)).but hb3 hlt
      have hB3 := (hB2.alloc _).trans hb3
      clear hs3 hb3
      have HX2 := hide (in_snoc (x := v) HX.out (by omega))
      go_wp2_with (first | (at_builtin; refine append_int rfl (.tmp 13) (.tmp 19) rfl w.heap.size w3 s2 c2 o v _ rfl rfl hR3 (by omega) hB3.size ?_; intro g4 c4 w4 R4 hb4))
      have hr4 := hr3.below hb4 hlt
      have hB4 := hB3.below hb4 (by omega)
      clear hb4
      go_wp2
      go_roundw
      case rel => exact ⟨z - 1, q + 1 + 1, _, _, o ++ [v], by omega, by omega, by go_num, by rw [len_snocK o v], by rw [List.length_append]; simp; omega, by omega, HX2, R4, hr4, hB4⟩
      case measure => (first | (simp [intOf]; done) | (simp [intOf]; omega))
    · obtain rfl : z = 0 := by omega
      by_cases h0 : 0 < o.length
      · have h0i : (0 : Int) < (o.length : Int) := by omega
        go_wp2_with fail
        refine (pick_pos B g _ 16 _ hr (by omega) (by omega)).mono ?_
        rintro e w2 ⟨u, rfl, u0, u1, hr2, hb2, hs2⟩
        have hR2 := hR.but hb2 hlt
        have hB2 := hB.trans hb2
        clear hs2 hb2
        by_cases hu : u = 0
        · subst hu
          go_wp2_with fail
          refine (one_at B g _ [-1, 251] (-1) 251 _ _ _ _ rfl rfl hr2 (by omega) (by simp) (by simp) (by intro z hz; simp at hz; omega)).mono ?_
          rintro e w3 ⟨v, rfl, v0, v1, hr3, hb3, hs3⟩
          have hR3 := (hR2.ext ((Ext.refl _).alloc _)).but hb3 hlt
          have hB3 := (hB2.alloc _).trans hb3
          clear hs3 hb3
          obtain ⟨b, rfl, hb, hbl, fz, cz⟩ := hR3.spot h0
          have c0 := cz 0 h0
          have f0 := fz 0
          obtain ⟨y, hy⟩ : ∃ y, y = o.getD 0 0 := ⟨_, rfl⟩; rw [← hy] at c0
          clear hy cz fz
          have HX2 := hide (in_set (i := 0) (x := v) HX.out (by omega))
          have R4 := hR3.store 0 v
          have r4 := hr3.put b 0 (.int .i64 v) (by omega) (by omega)
          have B4 := hB3.put b 0 (.int .i64 v) hb
          go_wp2
          go_ret
          exact ⟨some ⟨b, 0, none⟩, c2, o.set 0 v, by rw [List.length_set]; rfl, R4, by rw [List.length_set]; omega, HX2.out, ⟨_, by omega, r4⟩, B4⟩
        · have hd : (u == 0) = false := by rw [beq_eq_false_iff_ne]; exact hu
          go_wp2
          go_ret
          exact ⟨s2, c2, o, rfl, hR2, by omega, HX.out, ⟨_, by omega, hr2⟩, hB2⟩
      · have h0i : ¬ (0 : Int) < (o.length : Int) := by omega
        go_wp2
        go_ret
        exact ⟨s2, c2, o, rfl, hR, by omega, HX.out, ⟨_, by omega, hr⟩, hB⟩
set_option maxHeartbeats 1000000 in
theorem somePlaces_any (B g p : Nat) (w : World) (hr : Rdr B w g p) (hp : p < 9000) :
    Calls Try.prog 62 #[.pointer (some ⟨g, 0, none⟩)] w (LsOut B g p 20 8 w) := by
  have hlt := hr.lt
  have hlow := hr.low
  have hr0 := hr.alloc (.cells #[] 3)
  have hB0 := (But.refl g w).alloc (.cells #[] 3)
  have R0 := Row.made w.heap.size w (Nat.le_refl _)
  go_enter Try.func62, Try.ntmps62
  go_wp2_with fail
  refine (one_at B g _ [4, 5, 3, 6, 1, 0, 8] 0 8 _ _ _ _ (by simp) rfl hr0 (by omega) (by simp) (by simp) (by intro z hz; simp at hz; omega)).mono ?_
  rintro e w1 ⟨z, rfl, z0, z1, hr1, hb1, hs1⟩
  have hB1 := (hB0.alloc _).trans hb1
  have R1 := (R0.ext ((Ext.refl _).alloc _)).but hb1 hlt
  clear hs1 hb1 hr0 hB0 R0
  go_wp2
  go_loopw [3, 4] (fun v n wr => ∃ (z : Int) (q : Nat) (s2 : Option Addr) (c2 : Nat) (o : List Int), 0 ≤ z ∧ z ≤ 8 ∧ n = .int .i64 z ∧ v = .slice s2 o.length c2 ∧ (o.length : Int) + z ≤ 8 ∧ (q : Int) + 2 * z ≤ (p : Int) + 17 ∧ Hid (∀ x ∈ o, (-1 : Int) ≤ x ∧ x ≤ 300) ∧ Row w.heap.size wr s2 c2 o ∧ Rdr B wr g q ∧ But g w wr) (fun _ n _ => (intOf n).toNat)
  case atStart => exact ⟨z, p + 1, _, 0, [], z0, z1, rfl, rfl, by simp; omega, by omega, (show ∀ x ∈ ([] : List Int), (-1 : Int) ≤ x ∧ x ≤ 300 by simp), R1, hr1, hB1⟩
  case round =>
    clear R1 hr1 hB1 z0 z1
    obtain ⟨z, q, s2, c2, o, z0, z1, rfl, rfl, ho, hq, HX, hR, hr, hB⟩ := hrel
    by_cases hz : 0 < z
    · go_wp2_with fail
      refine (pick_pos B g _ 250 _ hr (by omega) (by omega)).mono ?_
      rintro e w2 ⟨u, rfl, u0, u1, hr2, hb2, hs2⟩
      have hR2 := hR.but hb2 hlt
      have hB2 := hB.trans hb2
      clear hs2 hb2
      go_wp2_with fail
      refine (one_at B g _ [1 + u, (o.length : Int) + 1] 0 300 _ _ _ _ rfl rfl hr2 (by omega) (by simp) (by simp) (by intro z hz; simp at hz; omega)).mono ?_
      rintro e w3 ⟨v, rfl, v0, v1, hr3, hb3, hs3⟩
      have hR3 := (hR2.ext ((Ext.refl _).alloc _)).but hb3 hlt
      have hB3 := (hB2.alloc _).trans hb3
      clear hs3 hb3
      have HX2 := hide (in_snoc (x := v) HX.out (by omega))
      have HPl := hide (specPlaceIn s2 c2 o.length o v w3 hR3.lst rfl (by omega))
      obtain ⟨pl, hpl⟩ : ∃ pl, pl = plc o v := ⟨_, rfl⟩; rw [← hpl] at HPl
      clear hpl
      by_cases hneg : pl < 0
      · go_wp2_with fail; refine (HPl.out).mono ?_; rintro e w' ⟨rfl, rfl⟩
        go_wp2_with (first | (at_builtin; refine append_int rfl (.tmp 27) (.tmp 29) rfl w.heap.size w3 s2 c2 o v _ rfl rfl hR3 (by omega) hB3.size ?_; intro g4 c4 w4 R4 hb4))
        have hr4 := hr3.below hb4 hlt
        have hB4 := hB3.below hb4 (by omega)
        clear hb4
        go_wp2
        go_roundw
        case rel => exact ⟨z - 1, q + 1 + 1, _, _, o ++ [v], by omega, by omega, by go_num, by rw [len_snocK o v], by rw [List.length_append]; simp; omega, by omega, HX2, R4, hr4, hB4⟩
        case measure => (first | (simp [intOf]; done) | (simp [intOf]; omega))
      · have hd : decide (pl < 0) = false := decide_eq_false hneg
        go_wp2_with fail; refine (HPl.out).mono ?_; rintro e w' ⟨rfl, rfl⟩
        go_wp2
        go_roundw
        case rel => exact ⟨z - 1, q + 1 + 1, s2, c2, o, by omega, by omega, by go_num, rfl, by omega, by omega, HX, hR3, hr3, hB3⟩
        case measure => (first | (simp [intOf]; done) | (simp [intOf]; omega))
    · obtain rfl : z = 0 := by omega
      by_cases h0 : 0 < o.length
      · have h0i : (0 : Int) < (o.length : Int) := by omega
        go_wp2_with fail
        refine (pick_pos B g _ 16 _ hr (by omega) (by omega)).mono ?_
        rintro e w2 ⟨u, rfl, u0, u1, hr2, hb2, hs2⟩
        have hR2 := hR.but hb2 hlt
        have hB2 := hB.trans hb2
        clear hs2 hb2
        by_cases hu : u = 0
        · subst hu
          obtain ⟨b, rfl, hb, hbl, fz, cz⟩ := hR2.spot h0
          have cl := cz (o.length - 1) (by omega)
          have hl1 : ((o.length : Int) - 1).toNat = o.length - 1 := by omega
          have hvl := HX.out _ (getD_mem (l := o) (k := o.length - 1) (by omega))
          obtain ⟨t, ht⟩ : ∃ t, t = o.getD (o.length - 1) 0 := ⟨_, rfl⟩; rw [← ht] at cl hvl
          clear ht cz fz
          go_wp2_with fail
          refine (one_at B g _ [0, 251, t] (-1) 300 _ _ _ _ rfl rfl hr2 (by omega) (by simp) (by simp) (by intro z hz; simp at hz; omega)).mono ?_
          rintro e w3 ⟨v, rfl, v0, v1, hr3, hb3, hs3⟩
          have hR3 := (hR2.ext ((Ext.refl _).alloc _)).but hb3 hlt
          have hB3 := (hB2.alloc _).trans hb3
          clear hs3 hb3 hl1 cl
          obtain ⟨b2, eb, _, _, fz, cz⟩ := hR3.spot h0
          cases eb
          have c0 := cz 0 h0
          have f0 := fz 0
          obtain ⟨y, hy⟩ : ∃ y, y = o.getD 0 0 := ⟨_, rfl⟩; rw [← hy] at c0
          clear hy cz fz
          have HX2 := hide (in_set (i := 0) (x := v) HX.out (by omega))
          have R4 := hR3.store 0 v
          have r4 := hr3.put b 0 (.int .i64 v) (by omega) (by omega)
          have B4 := hB3.put b 0 (.int .i64 v) hb
          go_wp2
          go_ret
          exact ⟨some ⟨b, 0, none⟩, c2, o.set 0 v, by rw [List.length_set]; rfl, R4, by rw [List.length_set]; omega, HX2.out, ⟨_, by omega, r4⟩, B4⟩
        · have hd : (u == 0) = false := by rw [beq_eq_false_iff_ne]; exact hu
          go_wp2
          go_ret
          exact ⟨s2, c2, o, rfl, hR2, by omega, HX.out, ⟨_, by omega, hr2⟩, hB2⟩
      · have h0i : ¬ (0 : Int) < (o.length : Int) := by omega
        go_wp2
        go_ret
        exact ⟨s2, c2, o, rfl, hR, by omega, HX.out, ⟨_, by omega, hr⟩, hB⟩
/-- an append of one share at a step of a drawn region; where the list lies afterwards, and what else stays -/
theorem step_append_share_at {ops : Array Oper} {o : Oper} {a : Act} {K : Act → World → Prop} {Q : Exit → Act → World → Prop} {E : Prop} {s x : Operand} (hgd : o.guard = none)
    (ho : o.op = .call { callee := .builtin .append, args := #[s, x], argTypes := #[23, 23] }) {base : Nat} {w1 : World} {sa : Option Addr} {cap n : Nat} {ll : List Sh} {v : Sh} {T : TypeId} {g0 : Nat}
    (hs : a.eval s = .slice sa n cap) (hx : a.eval x = .slice (some ⟨g0, 0, none⟩) 1 1) (hn : ll.length = n) (X : Box w1 g0 #[.int .i64 v.x, .int .i64 v.y] T) (R : RowS base w1 sa cap ll) (hl : n ≤ 2000000) (hb : base ≤ w1.heap.size)
    (h : ∀ g cap' w', RowS base w' (some ⟨g, 0, none⟩) cap' (ll ++ [v]) → Below base w1 w' → (sa = some ⟨g, 0, none⟩ ∨ w1.heap.size ≤ g) → (∀ k, k < w1.heap.size → sa ≠ some ⟨k, 0, none⟩ → w'.heap[k]? = w1.heap[k]?) → K (a.put o.dst (.slice (some ⟨g, 0, none⟩) (n + 1) cap')) w') :
    if Region.wanted o (yielded ops a.tmps) = true then Oper.wp Try.prog o a w1 K Q else E := by
  subst hn
  obtain ⟨i0, hi, hz0, hz1, hz2⟩ := info_parts Try.infoSh
  refine step_append_lies w1 hgd s x 23 ho base 40 i0 _ 2 16 Try.underlying23 hi hz0 hz1 hz2 rfl (by decide) _ _ _ hs R.own ⟨g0, 0, none⟩ 1 1 [.int .i64 v.x, .int .i64 v.y] hx rfl (World.news_of_block X) (by simp [Value.oneCell']) (by omega) (by unfold maxLen; omega) (by omega) hb _ rfl ?_
  intro g cap' w2 hown hgrow hat hlt
  have hown2 : ∀ k, (Value.slice sa ll.length cap).ownBlock = some k → sa = some ⟨k, 0, none⟩ := by
    intro k hk
    rcases R.2 with ⟨h2, _⟩ | ⟨b, c, cur, h2, h3, h4, h5⟩
    · simp only [Value.slice.injEq] at h2; rw [h2.1] at hk; simp [Value.ownBlock] at hk
    · simp only [Value.slice.injEq] at h2; rw [h2.1] at hk ⊢; simp [Value.ownBlock] at hk; rw [hk]
  refine h g cap' w2 ?_ ((Below.refl _ _).grown hgrow hb fun k hk => (World.ownsRow.lt R.own k hk).1) ?_ ?_
  · show w2.ownsRow base 40 2 (.slice (some ⟨g, 0, none⟩) (ll ++ [v]).length cap') (ll ++ [v]).length ((flat (ll ++ [v])).map (Value.int .i64))
    rw [flat_append, List.map_append, List.length_append]; exact hown
  · rcases hat with e | e
    · exact .inl (hown2 g e)
    · right; omega
  · intro k hk hne
    exact hgrow.block k hk (fun e => hne (hown2 k e.symm))
theorem Row.atBlock {base : Nat} {w w' : World} {b cap : Nat} {l : List Int} (h : Row base w (some ⟨b, 0, none⟩) cap l) (e : w'.heap[b]? = w.heap[b]?) : Row base w' (some ⟨b, 0, none⟩) cap l := by
  obtain ⟨h1, h2⟩ := h
  refine ⟨h1, ?_⟩
  rcases h2 with ⟨h2, _⟩ | ⟨g, c, cur, h2, h3, h4, h5⟩
  · cases h2
  · simp only [Value.slice.injEq, Option.some.injEq, Addr.mk.injEq] at h2
    obtain ⟨⟨rfl, _⟩, _, rfl⟩ := h2
    exact .inr ⟨b, cap, cur, rfl, h3, e.trans h4, h5⟩
set_option maxHeartbeats 1000000 in
theorem someShares_any (B g p : Nat) (w : World) (hr : Rdr B w g p) (hp : p < 8000) :
    Calls Try.prog 68 #[.pointer (some ⟨g, 0, none⟩)] w (ShOut B g p 40 8 w) := by
  have hlt := hr.lt
  have hlow := hr.low
  have hr0 := hr.alloc (.cells #[] 40)
  have hB0 := (But.refl g w).alloc (.cells #[] 40)
  have R0 := RowS.made w.heap.size w (Nat.le_refl _)
  go_enter Try.func68, Try.ntmps68
  go_wp2_with fail
  refine (somePlaces_any B g p _ hr0 (by omega)).mono ?_
  rintro e w1 ⟨sx, cx, xs, rfl, RX, nx, _, ⟨q1, hq1, hr1⟩, hb1⟩
  have hB1 := hB0.trans hb1
  have R1 := R0.but hb1 hlt
  have RX1 := RX.le (base' := w.heap.size + 1) (by simp)
  clear hb1 hr0 hB0 R0 RX
  go_wp2
  go_loopw [3, 5] (fun v i wr => ∃ (k q : Nat) (s2 : Option Addr) (c2 : Nat) (o : List Sh), k ≤ xs.length ∧ i = .int .i64 k ∧ v = .slice s2 o.length c2 ∧ o.length ≤ k ∧ q ≤ p + 20 + k ∧ (∀ b a, sx = some b → s2 = some a → a.block ≠ b.block) ∧ RowS w.heap.size wr s2 c2 o ∧ Row (w.heap.size + 1) wr sx cx xs ∧ Rdr B wr g q ∧ But g w wr) (fun _ i _ => xs.length - (intOf i).toNat)
  case atStart => exact ⟨0, q1, _, 0, [], Nat.zero_le _, rfl, rfl, Nat.le_refl _, by omega, (fun b a h1 h2 => by cases h2; have := (RX1.block_lt h1).1; show w.heap.size ≠ b.block; omega), R1, RX1, hr1, hB1⟩
  case round =>
    clear R1 RX1 hr1 hB1
    obtain ⟨k, q, s2, c2, o, hk, rfl, rfl, ho, hq, hne, hR, hX, hr, hB⟩ := hrel
    by_cases hltk : k < xs.length
    · have hki : (k : Int) < (xs.length : Int) := by omega
      obtain ⟨xb, rfl, hxb, hxl, _, cz⟩ := hX.spot (by omega)
      have q0 := cz k hltk
      have hxg : xb ≠ g := by omega
      have HK := hide (fun w2 (e : But g wr w2) => And.intro ((e.cell xb k hxl hxg).trans q0) trivial)
      have HX9 := hide (fun w2 w3 (e : But g wr w2) (c : ∀ k, k < w2.heap.size → s2 ≠ some ⟨k, 0, none⟩ → w3.heap[k]? = w2.heap[k]?) => (show (w3.cell? ⟨xb, k, none⟩ = some (.int .i64 (xs.getD k 0)) ∧ True) ∧ Row (w.heap.size + 1) w3 (some ⟨xb, 0, none⟩) cx xs from by
        have h1 : s2 ≠ some ⟨xb, 0, none⟩ := fun h => hne _ _ rfl h rfl
        have h2 := c xb (Nat.lt_of_lt_of_le hxl e.size) h1
        have h3 := h2.trans (e.block xb hxl hxg)
        exact ⟨⟨(World.cell?_of_block (w := wr) h3).trans q0, trivial⟩, hX.atBlock h3⟩))
      obtain ⟨x, hxx⟩ : ∃ x, x = xs.getD k 0 := ⟨_, rfl⟩; rw [← hxx] at q0 HK HX9
      clear hxx cz
      go_wp2
      refine wp_region_held_drew (S := (fun w' => w'.cell? ⟨xb, k, none⟩ = some (.int .i64 x) ∧ True)) (by kernel_rfl) (by first | exact HK.out _ (But.refl g wr).drew) (fun hHeld => ?_)
      refine wpAnyH_take (i := 0) (oi := _) (v := ?_) rfl (by kernel_rfl) (by kernel_rfl) (by kernel_rfl) (fun _ _ _ h => h) (Or.inl ⟨by rfl, ?_⟩) (by assumption) ?_
      rotate_left
      · (intro w hSw; (try dsimp only at hSw); (try obtain ⟨hS0, hS1⟩ := hSw); go_simp; (try with_reducible rfl))
      (try simp only [List.getElem_toArray, List.getElem_cons_zero, Act.put, List.setIfInBounds_toArray, List.set_cons_zero, List.set_cons_succ])
      refine wpAnyH_take (i := 1) (oi := _) (v := ?_) rfl (by kernel_rfl) (by kernel_rfl) (by kernel_rfl) (fun _ _ _ h => h) (Or.inl ⟨by rfl, ?_⟩) (by assumption) ?_
      rotate_left
      · (intro w hSw; (try dsimp only at hSw); (try obtain ⟨hS0, hS1⟩ := hSw); go_simp; (try with_reducible rfl))
      (try simp only [List.getElem_toArray, List.getElem_cons_succ, List.getElem_cons_zero, Act.put, List.setIfInBounds_toArray, List.set_cons_zero, List.set_cons_succ])
      refine wpAnyH_take (i := 2) (oi := _) (v := ?_) rfl (by kernel_rfl) (by kernel_rfl) (by kernel_rfl) (fun _ _ _ h => h) (Or.inl ⟨by rfl, ?_⟩) (by assumption) ?_
      rotate_left
      · (intro w hSw; (try dsimp only at hSw); (try obtain ⟨hS0, hS1⟩ := hSw); go_simp; (try with_reducible rfl))
      (try simp only [List.getElem_toArray, List.getElem_cons_succ, List.getElem_cons_zero, Act.put, List.setIfInBounds_toArray, List.set_cons_zero, List.set_cons_succ])
      refine wpAnyH_take (i := 3) (oi := _) (v := ?_) rfl (by kernel_rfl) (by kernel_rfl) (by kernel_rfl) (fun _ _ _ h => h) (Or.inl ⟨by rfl, ?_⟩) (by assumption) ?_
      rotate_left
      · (intro w hSw; (try dsimp only at hSw); (try obtain ⟨hS0, hS1⟩ := hSw); go_simp; (try with_reducible rfl))
      (try simp only [List.getElem_toArray, List.getElem_cons_succ, List.getElem_cons_zero, Act.put, List.setIfInBounds_toArray, List.set_cons_zero, List.set_cons_succ])
      refine wpAnyH_take (i := 4) (oi := _) (v := ?_) rfl (by kernel_rfl) (by kernel_rfl) (by kernel_rfl) (fun _ _ _ h => h) (Or.inl ⟨by rfl, ?_⟩) (by assumption) ?_
      rotate_left
      · (intro w hSw; (try dsimp only at hSw); (try obtain ⟨hS0, hS1⟩ := hSw); go_simp; (try with_reducible rfl))
      (try simp only [List.getElem_toArray, List.getElem_cons_succ, List.getElem_cons_zero, Act.put, List.setIfInBounds_toArray, List.set_cons_zero, List.set_cons_succ])
      refine wpAnyH_take (i := 5) (oi := _) (v := ?_) rfl (by kernel_rfl) (by kernel_rfl) (by kernel_rfl) (fun _ _ _ h => h) (Or.inl ⟨by rfl, ?_⟩) (by assumption) ?_
      rotate_left
      · (intro w hSw; (try dsimp only at hSw); (try obtain ⟨hS0, hS1⟩ := hSw); go_simp; (try with_reducible rfl))
      (try simp only [List.getElem_toArray, List.getElem_cons_succ, List.getElem_cons_zero, Act.put, List.setIfInBounds_toArray, List.set_cons_zero, List.set_cons_succ])
      refine wpAnyH_ready (rs := [6]) (by kernel_rfl) (by simp) ?_
      refine AllReadyH.cons (o := _) rfl (fun K hK => ?_) AllReadyH.nil
      go_simp
      refine (pick_pos B g q 251 _ hr.drew (by omega) (by omega)).mono ?_; rintro e w6 ⟨u, rfl, u0, u1, hr6, hb6, hs6⟩
      have hb6' := (But.refl g wr).drew.trans hb6
      clear hs6
      refine hK.out _ _ (HK.out _ hb6') (fun hHeld => ?_); clear hK K
      (try simp only [List.getElem_toArray, List.getElem_cons_succ, List.getElem_cons_zero, Act.put, List.setIfInBounds_toArray, List.set_cons_zero, List.set_cons_succ])
      refine wpAnyH_take (i := 7) (oi := _) (v := ?_) rfl (by kernel_rfl) (by kernel_rfl) (by kernel_rfl) (fun _ _ _ h => h) (Or.inl ⟨by rfl, ?_⟩) (by assumption) ?_
      rotate_left
      · (intro w hSw; (try dsimp only at hSw); (try obtain ⟨hS0, hS1⟩ := hSw); go_simp; (try with_reducible rfl))
      (try simp only [List.getElem_toArray, List.getElem_cons_succ, List.getElem_cons_zero, Act.put, List.setIfInBounds_toArray, List.set_cons_zero, List.set_cons_succ])
      refine wpAnyH_ready (rs := [8]) (by kernel_rfl) (by simp) ?_
      refine AllReadyH.cons (o := _) rfl (fun K hK => ?_) AllReadyH.nil
      go_simp
      refine hK.out _ _ (HK.out _ (hb6'.alloc _)) (fun hHeld => ?_); clear hK K
      (try simp only [List.getElem_toArray, List.getElem_cons_succ, List.getElem_cons_zero, Act.put, List.setIfInBounds_toArray, List.set_cons_zero, List.set_cons_succ])
      refine wpAnyH_ready (rs := [9]) (by kernel_rfl) (by simp) ?_
      refine AllReadyH.cons (o := _) rfl (fun K hK => ?_) AllReadyH.nil
      refine step_append_share_at (base := w.heap.size) (n := o.length) (ll := o) (s := .tmp 15) (x := .tmp 23) (v := ⟨x, u⟩) (by rfl) (by rfl) (by rfl) (by rfl) rfl (Box.new _ _ _) ((hR.but hb6' hlt).ext ((Ext.refl _).alloc _)) (by omega) (by have := hB.size; have := hb6'.size; simp; omega) ?_; intro g9 c9 w9 R9 hb9 ha9 hc9
      have hX9 := HX9.out _ w9 (hb6'.alloc _) hc9
      refine hK.out _ _ (hX9.1) (fun hHeld => ?_); clear hK K
      (try simp only [List.getElem_toArray, List.getElem_cons_succ, List.getElem_cons_zero, Act.put, List.setIfInBounds_toArray, List.set_cons_zero, List.set_cons_succ])
      refine wpAnyH_ready (rs := [10]) (by kernel_rfl) (by simp) ?_
      refine AllReadyH.cons (o := _) rfl (fun K hK => ?_) AllReadyH.nil
      go_simp
      refine hK.out _ _ (hX9.1) (fun hHeld => ?_); clear hK K
      (try simp only [List.getElem_toArray, List.getElem_cons_succ, List.getElem_cons_zero, Act.put, List.setIfInBounds_toArray, List.set_cons_zero, List.set_cons_succ])
      refine wpAnyH_done (by kernel_rfl) ?_ _
      have hr9 := hr6.below ((Below.refl w.heap.size w6).trans (((Below.refl _ w6).alloc (by have := hB.size; have := hb6'.size; omega) _).trans hb9)) hlt
      have hB9 := ((hB.trans hb6').alloc _).below hb9 (Nat.le_refl _)
      have hXX := hX9.2
      have hne9 : ∀ b a, (some ⟨xb, 0, none⟩ : Option Addr) = some b → (some ⟨g9, 0, none⟩ : Option Addr) = some a → a.block ≠ b.block := by
        intro b a h1 h2
        cases h1; cases h2
        rcases ha9 with h | h
        · exact hne _ _ rfl h
        · have h8 := hb6'.size
          have h9 : w6.heap.size < (w6.alloc (.cells #[.int .i64 x, .int .i64 u] 40)).heap.size := by simp
          show g9 ≠ xb
          omega
      clear hb9 ha9 hc9 hX9 hX hR HX9 HK
      go_wp2
      go_roundw
      case rel => exact ⟨k + 1, q + 1, _, _, o ++ [⟨x, u⟩], by omega, by go_num, by rw [len_snocK o], by rw [List.length_append]; simp; omega, by omega, hne9, R9, hXX, hr9, hB9⟩
      case measure => (first | (simp [intOf]; done) | (simp [intOf]; omega))
    · have hkx : k = xs.length := by omega
      have hki : decide ((k : Int) < (xs.length : Int)) = false := decide_eq_false (by omega)
      clear hX hne
      by_cases h0 : 0 < o.length
      · have h0i : (0 : Int) < (o.length : Int) := by omega
        go_wp2_with fail
        refine (pick_pos B g _ 20 _ hr (by omega) (by omega)).mono ?_
        rintro e w2 ⟨u, rfl, u0, u1, hr2, hb2, hs2⟩
        have hR2 := hR.but hb2 hlt
        have hB2 := hB.trans hb2
        clear hs2 hb2
        by_cases hu : u = 0
        · subst hu
          go_wp2_with fail
          refine (one_at B g _ [-1, 251] (-1) 251 _ _ _ _ rfl rfl hr2 (by omega) (by simp) (by simp) (by intro z hz; simp at hz; omega)).mono ?_
          rintro e w3 ⟨v, rfl, v0, v1, hr3, hb3, hs3⟩
          have hR3 := (hR2.ext ((Ext.refl _).alloc _)).but hb3 hlt
          have hB3 := (hB2.alloc _).trans hb3
          clear hs3 hb3
          obtain ⟨b, rfl, hb, hbl, fz, cz⟩ := hR3.spot h0
          have c0 := (cz 0 h0).2
          have f0 := fz 1
          rw [Nat.zero_mul, Nat.zero_add] at c0
          obtain ⟨y, hy⟩ : ∃ y, y = (o.getD 0 Sh.z).y := ⟨_, rfl⟩; rw [← hy] at c0
          clear hy cz fz
          have R4 := hR3.storeY h0 v
          rw [Nat.zero_mul, Nat.zero_add] at R4
          have r4 := hr3.put b 1 (.int .i64 v) (by omega) (by omega)
          have B4 := hB3.put b 1 (.int .i64 v) hb
          go_wp2
          go_ret
          exact ⟨some ⟨b, 0, none⟩, c2, _, by rw [List.length_set]; rfl, R4, by rw [List.length_set]; omega, ⟨_, by omega, r4⟩, B4⟩
        · have hd : (u == 0) = false := by rw [beq_eq_false_iff_ne]; exact hu
          go_wp2
          go_ret
          exact ⟨s2, c2, o, rfl, hR2, by omega, ⟨_, by omega, hr2⟩, hB2⟩
      · have h0i : ¬ (0 : Int) < (o.length : Int) := by omega
        go_wp2
        go_ret
        exact ⟨s2, c2, o, rfl, hR, by omega, ⟨_, by omega, hr⟩, hB⟩
end Go.Proofs.Ytgmhodmgbhpdaab
