/- The generator's bodies that may be invalid, members and ballots: contracts over the reader. -/
import Derived.Test.YtjdfdikifiljjabDrawB
namespace Go.Proofs.Ytjdfdikifiljjab
open Go.ChangeShapes Go.WideShapes Go.ChangeAt Go.RowKit Go.Joins
set_option linter.unusedVariables false

theorem tot_bd3 (l : List Int) (m : Int) (h : ∀ x ∈ l, -m ≤ x ∧ x ≤ m) : -(m * l.length) ≤ tot l ∧ tot l ≤ m * l.length := by
  induction l with
  | nil => simp [tot]
  | cons a l ih =>
    have h1 := ih fun x hx => h x (List.mem_cons_of_mem _ hx)
    have h2 := h a (List.mem_cons_self ..)
    rw [tot_cons, List.length_cons, Int.natCast_add, Int.mul_add]; omega
/-- the length of the list that a box's first cell holds -/
def wlen (w : World) (k : Nat) : Nat := match w.cell? ⟨k, 0, none⟩ with | some (.slice _ n _) => n | _ => 0
theorem wlen_at {w : World} {k n c : Nat} {s : Option Addr} (h : w.cell? ⟨k, 0, none⟩ = some (.slice s n c)) : wlen w k = n := by unfold wlen; rw [h]
theorem set_all {l : List Int} {lo hi : Int} (h : ∀ x ∈ l, lo ≤ x ∧ x ≤ hi) (i : Nat) (v : Int) (h0 : lo ≤ v) (h1 : v ≤ hi) : ∀ x ∈ l.set i v, lo ≤ x ∧ x ≤ hi := by
  intro x hx
  rcases List.mem_or_eq_of_mem_set hx with hx | rfl
  · exact h x hx
  · exact ⟨h0, h1⟩
theorem len_snocC (o : List Int) (x : Int) : o.length + 1 = (o ++ [x]).length := by simp

theorem Row.putNeB {base : Nat} {w : World} {b cap : Nat} {l : List Int} (h : Row base w (some ⟨b, 0, none⟩) cap l) {g : Nat} (hn : b ≠ g) (j : Nat) (v : Value) : Row base (w.setCell ⟨g, j, none⟩ v) (some ⟨b, 0, none⟩) cap l := by
  obtain ⟨h1, h2⟩ := h
  refine ⟨h1, ?_⟩
  rcases h2 with h2 | ⟨x, c, cur, h2, h3, h4, h5⟩
  · exact .inl h2
  · have e : b = x := by simp only [Value.slice.injEq, Option.some.injEq, Addr.mk.injEq] at h2; exact h2.1.1
    exact .inr ⟨x, c, cur, h2, h3, (Below.heap_setCell w ⟨g, j, none⟩ v x (by subst e; exact hn)).trans h4, h5⟩

set_option maxHeartbeats 1000000 in
theorem specTotal2 (sa : Option Addr) (cap n : Nat) (l : List Int) (w : World) (h : Lst w sa l) (hn : l.length = n) (hl : n ≤ 1000) (hx : ∀ x ∈ l, -1000 ≤ x ∧ x ≤ 1000) :
    Calls Try.prog 74 #[.slice sa n cap] w (Same (.int .i64 (tot l)) w) := by
  subst hn
  have H := hide h; clear h
  have HX := hide hx; clear hx
  go_enter Try.func74, Try.ntmps74
  go_wp2
  go_loop [3, 4] (fun a i => ∃ (k : Nat) (s : Int), k ≤ l.length ∧ i = .int .i64 k ∧ a = .int .i64 s ∧ Hid (s = tot (l.take k))) (fun _ i => l.length - (intOf i).toNat)
  case atStart => exact ⟨0, 0, Nat.zero_le _, rfl, rfl, rfl⟩
  case round =>
    obtain ⟨k, s, hk, rfl, rfl, HS⟩ := hrel
    have hb := tot_bd3 (l.take k) 1000 fun x hx => HX.out x (List.mem_of_mem_take hx)
    have htl : (l.take k).length ≤ k := List.length_take_le _ _
    rw [← HS.out] at hb
    by_cases hlt : k < l.length
    · have hz := HX.out _ (getD_mem hlt)
      have HS2 := hide (show s + l.getD k 0 = tot (l.take (k + 1)) by rw [tot_take l k hlt, HS.out])
      obtain ⟨g, off, rfl, hg, c1⟩ := H.out.at hlt
      obtain ⟨z, hz2⟩ : ∃ z, z = l.getD k 0 := ⟨_, rfl⟩; rw [← hz2] at c1 hz HS2
      clear hz2
      go_wp2
      go_round
      case rel => exact ⟨k + 1, s + z, by omega, by go_num, rfl, HS2⟩
      case measure => simp [intOf]; omega
    · have HF := hide (show s = tot l by rw [HS.out, List.take_of_length_le (by omega)])
      go_wp2
      go_ret
      exact Same.int HF.out

set_option maxRecDepth 100000 in
set_option maxHeartbeats 4000000 in
theorem anyBody_any (B g p : Nat) (w : World) (hr : Rdr B w g p) (hp : p < 10000) :
    Calls Try.prog 76 #[.pointer (some ⟨g, 0, none⟩)] w (BodyOut B g p 30 (-1) 101 w) := by
  have hlt := hr.lt
  go_enter Try.func76, Try.ntmps76
  have hr0 := hr.alloc (.cells #[.slice none 0 0, .int .i64 0] 28)
  go_wp2_with fail
  refine (someBody_any B g p _ hr0 (by omega)).mono ?_
  rintro e w1 ⟨sa, cap, l, need, rfl, hR, l1, l2, hx, m0, m1, ⟨q, hq, hr1⟩, hb1⟩
  have hY1 := (Box.new w #[.slice none 0 0, .int .i64 0] 28).but hb1 (by omega)
  have hB1 := ((But.refl g w).alloc (.cells #[.slice none 0 0, .int .i64 0] 28)).trans hb1
  have hk : w.heap.size + 1 ≤ w1.heap.size := by have := hb1.size; simpa using this
  replace hR : Row (w.heap.size + 1) w1 sa cap l := by simpa using hR
  obtain ⟨b, rfl, hbl, hbu, _, _⟩ := hR.spot (by omega)
  have HX := hide (show ∀ x ∈ l, -1 ≤ x ∧ x ≤ 101 from fun x h => ⟨by have := (hx x h).1; omega, by have := (hx x h).2; omega⟩)
  have HP := hide hx
  have hbt := tot_bd l 100 hx
  clear hb1 hr0 hx
  go_wp2_with fail
  refine (pick_pos B g q 20 _ (hr1.alloc _) (by omega) (by omega)).mono ?_
  rintro e w2 ⟨v, rfl, v0, v1, hr2, hb2, hs2⟩
  have hX2 := (Box.new w1 #[.slice (some ⟨b, 0, none⟩) l.length cap, .int .i64 need] 28).but hb2 (by omega)
  have hY2 := (hY1.push _).but hb2 (by omega)
  have hR2 := (hR.ext ((Ext.refl _).alloc _)).but hb2 (by omega)
  have hB2 := (hB1.alloc _).trans hb2
  have hz := hX2.lt
  clear hs2 hb2 hY1 hB1 hR
  by_cases h0 : v = 0
  · subst h0
    obtain ⟨c0, c1, _, _⟩ := hX2.two
    go_wp2_with fail
    refine (specTotal _ _ _ l _ hR2.lst rfl (by omega) (fun x hx => ⟨(HP.out x hx).1, by have := (HP.out x hx).2; omega⟩)).mono ?_; rintro e w' ⟨rfl, rfl⟩
    obtain ⟨s, hs⟩ : ∃ s, s = tot l := ⟨_, rfl⟩; rw [← hs] at hbt ⊢
    clear hs c0 c1
    go_wp2_with fail
    refine (one_at B g (q + 1) [0, s + 1] (-100000) 100000 _ _ _ _ rfl rfl hr2 (by omega) (by simp) (by simp) (by simp; omega)).mono ?_
    rintro e w3 ⟨nd, rfl, x0, x1, hr3, hb3, hs3⟩
    clear hs3
    have hX3 := (hX2.push _).but hb3 (by omega)
    have hY3 := (hY2.push _).but hb3 (by omega)
    have hR3 := (hR2.ext ((Ext.refl _).alloc _)).but hb3 (by omega)
    have hB3 := (hB2.alloc _).trans hb3
    obtain ⟨d0, d1, _, f1⟩ := hX3.two
    obtain ⟨b0, b1, b2, b3⟩ := hY3.two
    go_wp2
    refine bodyPost_ret (v := .agg #[.slice (some ⟨b, 0, none⟩) l.length cap, .int .i64 nd]) (by simp [results, Try.results76, go_sem, b0, b1]) rfl ?_
    exact ⟨some ⟨b, 0, none⟩, cap, l, nd, rfl, (((hR3.putNeB (by omega) _ _).put (by omega) _ _).put (by omega) _ _).le (by omega), by omega, by omega, HX.out, x0, x1, ⟨q + 1 + 1, by omega, (((hr3).put _ _ _ (by omega) (by have := hr.low; omega)).put _ _ _ (by omega) (by have := hr.low; omega)).put _ _ _ (by omega) (by have := hr.low; omega)⟩, (((hB3).put _ _ _ (by omega)).put _ _ _ (by omega)).put _ _ _ (by omega)⟩
  have t0 : (v == 0) = false := by rw [beq_eq_false_iff_ne]; exact h0
  by_cases h1 : v = 1
  · subst h1
    clear t0
    go_wp2
    have hl0 : 0 < l.length := by omega
    refine wp_region_held_drew (S := (fun w' => w'.cell? ⟨w1.heap.size, 0, none⟩ = some (.slice (some ⟨b, 0, none⟩) l.length cap))) (by kernel_rfl) (by first | exact hX2.drew.two.1) (fun hHeld => ?_)
    refine wpAnyH_take (i := 0) (oi := _) (v := ?_) rfl (by kernel_rfl) (by kernel_rfl) (by kernel_rfl) (fun _ _ _ h => h) (Or.inl ⟨by rfl, ?_⟩) (by assumption) ?_
    rotate_left
    · (intro w hSw; (try dsimp only at hSw); go_simp; (try with_reducible rfl))
    (try simp only [List.getElem_toArray, List.getElem_cons_zero, Act.put, List.setIfInBounds_toArray, List.set_cons_zero, List.set_cons_succ])
    refine wpAnyH_take (i := 1) (oi := _) (v := ?_) rfl (by kernel_rfl) (by kernel_rfl) (by kernel_rfl) (fun _ _ _ h => h) (Or.inl ⟨by rfl, ?_⟩) (by assumption) ?_
    rotate_left
    · (intro w hSw; (try dsimp only at hSw); go_simp; (try with_reducible rfl))
    (try simp only [List.getElem_toArray, List.getElem_cons_succ, List.getElem_cons_zero, Act.put, List.setIfInBounds_toArray, List.set_cons_zero, List.set_cons_succ])
    refine wpAnyH_take (i := 2) (oi := _) (v := ?_) rfl (by kernel_rfl) (by kernel_rfl) (by kernel_rfl) (fun _ _ _ h => h) (Or.inl ⟨by rfl, ?_⟩) (by assumption) ?_
    rotate_left
    · (intro w hSw; (try dsimp only at hSw); go_simp; (try with_reducible rfl))
    (try simp only [List.getElem_toArray, List.getElem_cons_succ, List.getElem_cons_zero, Act.put, List.setIfInBounds_toArray, List.set_cons_zero, List.set_cons_succ])
    refine wpAnyH_ready (rs := [3]) (by kernel_rfl) (by simp) ?_
    refine AllReadyH.cons (o := _) rfl (fun K hK => ?_) AllReadyH.nil
    go_simp
    refine hK.out _ _ ((hX2.drew.push _).two.1) (fun hHeld => ?_); clear hK K
    (try simp only [List.getElem_toArray, List.getElem_cons_succ, List.getElem_cons_zero, Act.put, List.setIfInBounds_toArray, List.set_cons_zero, List.set_cons_succ])
    refine wpAnyH_ready (rs := [4]) (by kernel_rfl) (by simp) ?_
    refine AllReadyH.cons (o := _) rfl (fun K hK => ?_) AllReadyH.nil
    go_simp
    refine (one_at B g (q + 1) [-1, 101] (-1) 101 _ _ _ _ (by simp) rfl hr2.drew (by omega) (by simp) (by simp) (by simp)).mono ?_; rintro e w3 ⟨x, rfl, x0, x1, hr3, hb3, hs3⟩
    refine hK.out _ _ (((hX2.drew.push _).but hb3 (by omega)).two.1) (fun hHeld => ?_); clear hK K
    (try simp only [List.getElem_toArray, List.getElem_cons_succ, List.getElem_cons_zero, Act.put, List.setIfInBounds_toArray, List.set_cons_zero, List.set_cons_succ])
    clear hs3
    have hX3 := (hX2.drew.push (.cells #[.int .i64 (-1), .int .i64 101] 3)).but hb3 (by omega)
    have hY3 := (hY2.drew.push (.cells #[.int .i64 (-1), .int .i64 101] 3)).but hb3 (by omega)
    have hR3 := ((hR2.ext (Ext.refl _).drew).ext ((Ext.refl _).alloc (.cells #[.int .i64 (-1), .int .i64 101] 3))).but hb3 (by omega)
    have hB3 := (hB2.drew.alloc (.cells #[.int .i64 (-1), .int .i64 101] 3)).trans hb3
    obtain ⟨_, e1, e2, e3, e4, e5⟩ := hR3.spot (by omega)
    cases e1
    have f0 := e4 0
    have v0 := e5 0 (by omega)
    clear e4 e5
    refine wpAnyH_take (i := 5) (oi := _) (v := ?_) rfl (by kernel_rfl) (by kernel_rfl) (by kernel_rfl) (fun _ _ _ h => h) (Or.inl ⟨by rfl, ?_⟩) (by assumption) ?_
    rotate_left
    · (intro w hSw; (try dsimp only at hSw); go_simp; (try with_reducible rfl))
    (try simp only [List.getElem_toArray, List.getElem_cons_succ, List.getElem_cons_zero, Act.put, List.setIfInBounds_toArray, List.set_cons_zero, List.set_cons_succ])
    refine wpAnyH_ready (rs := [6]) (by kernel_rfl) (by simp) ?_
    refine AllReadyH.cons (o := _) rfl (fun K hK => ?_) AllReadyH.nil
    go_simp
    refine hK.out _ _ ((hX3.put (g := b) (by omega) _ _).two.1) (fun hHeld => ?_); clear hK K
    (try simp only [List.getElem_toArray, List.getElem_cons_succ, List.getElem_cons_zero, Act.put, List.setIfInBounds_toArray, List.set_cons_zero, List.set_cons_succ])
    refine wpAnyH_done (by kernel_rfl) ?_ _
    have HX2 := hide (set_all HX.out 0 x x0 x1)
    clear f0 v0
    obtain ⟨d0, d1, d2, d3⟩ := ((hX3.put (g := b) (by omega) 0 (.int .i64 x))).two
    obtain ⟨b0, b1, b2, b3⟩ := ((hY3.put (g := b) (by omega) 0 (.int .i64 x))).two
    go_wp2
    refine bodyPost_ret (v := .agg #[.slice (some ⟨b, 0, none⟩) l.length cap, .int .i64 need]) (by simp [results, Try.results76, go_sem, b0, b1]) rfl ?_
    exact ⟨some ⟨b, 0, none⟩, cap, l.set 0 x, need, by rw [List.length_set], (((hR3.store 0 x).put (by omega) _ _).put (by omega) _ _).le (by omega), by rw [List.length_set]; omega, by rw [List.length_set]; omega, HX2.out, m0, m1, ⟨q + 1 + 1, by omega, (((hr3).put _ _ _ (by omega) (by have := hr.low; omega)).put _ _ _ (by omega) (by have := hr.low; omega)).put _ _ _ (by omega) (by have := hr.low; omega)⟩, (((hB3).put _ _ _ (by omega)).put _ _ _ (by omega)).put _ _ _ (by omega)⟩
  have t1 : (v == 1) = false := by rw [beq_eq_false_iff_ne]; exact h1
  by_cases h2 : v = 2
  · subst h2
    clear t0 t1 h0 h1
    go_wp2
    go_loopw [] (fun wr => ∃ (s2 : Option Addr) (c2 : Nat) (o : List Int), 1 ≤ o.length ∧ o.length ≤ 9 ∧ Box wr w1.heap.size #[.slice s2 o.length c2, .int .i64 need] 28 ∧ Row (w.heap.size + 1) wr s2 c2 o ∧ (∀ b, s2 = some ⟨b, 0, none⟩ → b ≠ w1.heap.size) ∧ Hid (∀ x ∈ o, -1 ≤ x ∧ x ≤ 101) ∧ Rdr B wr g (q + 1) ∧ But g w wr ∧ Box wr w.heap.size #[.slice none 0 0, .int .i64 0] 28) (fun wr => 9 - wlen wr w1.heap.size)
    case atStart => exact ⟨_, cap, l, l1, l2, hX2, hR2, (fun b' h => by cases h; omega), HX, hr2, hB2, hY2⟩
    case round =>
      clear hX2 hY2 hR2 hB2 hr2
      obtain ⟨s2, c2, o, o1, o2, hX, hR, hne, HO, hr2, hB, hY⟩ := hrel
      obtain ⟨b, rfl, hbl, hbu2, _, _⟩ := hR.spot (by omega)
      have hne2 := hne b rfl
      clear hne
      obtain ⟨c0, c1, f0, f1⟩ := hX.two
      by_cases hlt9 : o.length < 9
      · have hd9 : decide ((o.length : Int) < 9) = true := decide_eq_true (by omega)
        go_wp2_with (first | (at_builtin; refine append_int_at rfl _ _ rfl (w.heap.size + 1) _ b c2 o 1 _ rfl rfl hR (by omega) (by omega) ?_; intro g4 c4 w4 R4 hb4 hg4 hk4; have hX4 : Box w4 w1.heap.size _ _ := (hk4 _ hX.lt hne2.symm).trans hX; clear c0 c1 f0 f1; obtain ⟨c0, c1, f0, f1⟩ := hX4.two))
        have hY4 : Box w4 w.heap.size _ _ := hY.below hb4 (by omega)
        have hB4 := hB.below hb4 (by omega)
        have hr4 := hr2.below hb4 (by omega)
        have hne4 : g4 ≠ w1.heap.size := by
          rcases hg4 with rfl | h
          · exact hne2
          · have := hX.lt; omega
        go_wp2
        go_roundw
        case rel => exact ⟨some ⟨g4, 0, none⟩, c4, o ++ [1], by simp, by simp; omega, by rw [← len_snocC o 1]; exact hX4.set 0 _, R4.putNeB (by omega) _ _, (fun b' h => by cases h; exact hne4), (show ∀ x ∈ o ++ [1], _ from fun x hx => by
            rw [List.mem_append, List.mem_singleton] at hx
            rcases hx with hx | rfl
            · exact HO.out x hx
            · omega), hr4.put _ _ _ (by omega) (by have := hr.low; omega), hB4.put _ _ _ (by omega), hY4.put (by omega) _ _⟩
        case measure => rw [wlen_at hX.two.1, wlen_at (hX4.set 0 _).two.1]; omega
      · have hd9 : decide ((o.length : Int) < 9) = false := decide_eq_false (by omega)
        obtain ⟨b0, b1, b2, b3⟩ := hY.two
        go_wp2
        refine bodyPost_ret (v := .agg #[.slice (some ⟨b, 0, none⟩) o.length c2, .int .i64 need]) (by simp [results, Try.results76, go_sem, b0, b1]) rfl ?_
        exact ⟨some ⟨b, 0, none⟩, c2, o, need, rfl, ((hR.put (by omega) _ _).put (by omega) _ _).le (by omega), by omega, by omega, HO.out, m0, m1, ⟨q + 1, by omega, ((hr2).put _ _ _ (by omega) (by have := hr.low; omega)).put _ _ _ (by omega) (by have := hr.low; omega)⟩, ((hB).put _ _ _ (by omega)).put _ _ _ (by omega)⟩
  have t2 : (v == 2) = false := by rw [beq_eq_false_iff_ne]; exact h2
  obtain ⟨d0, d1, _, _⟩ := hX2.two
  obtain ⟨b0, b1, b2, b3⟩ := hY2.two
  go_wp2
  refine bodyPost_ret (v := .agg #[.slice (some ⟨b, 0, none⟩) l.length cap, .int .i64 need]) (by simp [results, Try.results76, go_sem, b0, b1]) rfl ?_
  exact ⟨some ⟨b, 0, none⟩, cap, l, need, rfl, ((hR2.put (by omega) _ _).put (by omega) _ _).le (by omega), by omega, by omega, HX.out, m0, m1, ⟨q + 1, by omega, ((hr2).put _ _ _ (by omega) (by have := hr.low; omega)).put _ _ _ (by omega) (by have := hr.low; omega)⟩, ((hB2).put _ _ _ (by omega)).put _ _ _ (by omega)⟩
end Go.Proofs.Ytjdfdikifiljjab
