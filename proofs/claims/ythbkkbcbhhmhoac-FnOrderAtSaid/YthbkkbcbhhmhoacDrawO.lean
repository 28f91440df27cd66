/- The generator's orders: contracts over the reader; the arguments of the laws on orders. -/
import Derived.Test.YthbkkbcbhhmhoacAppI
namespace Go.Proofs.Ythbkkbcbhhmhoac
open Go.ChangeShapes Go.WideShapes Go.ChangeAt Go.RowKit Go.Joins
set_option linter.unusedVariables false

/-- a list that was drawn -/
def LstOut (B g p k mn mx : Nat) (w : World) (e : Ending) (w' : World) : Prop :=
  ∃ (sa : Option Addr) (cap : Nat) (l : List Int), e = .returned (.slice sa l.length cap) ∧ Row w.heap.size w' sa cap l ∧ mn ≤ l.length ∧ l.length ≤ mx ∧ (∃ q, q ≤ p + k ∧ Rdr B w' g q) ∧ But g w w'

set_option maxRecDepth 100000 in
set_option maxHeartbeats 1000000 in
theorem turns_any (B g p M : Nat) (w : World) (hr : Rdr B w g p) (hp : p < 10000) (hM : M ≤ 12) :
    Calls Try.prog 90 #[.pointer (some ⟨g, 0, none⟩), .int .i64 M] w (LstOut B g p 12 M M w) := by
  have hgN := hr.lt
  have hlow := hr.low
  obtain ⟨N, hN⟩ : ∃ N, N = w.heap.size := ⟨_, rfl⟩
  have hNa : N ≤ w.heap.size := Nat.le_of_eq hN
  have hNb : w.heap.size ≤ N := Nat.le_of_eq hN.symm
  have hR0 : Row N (w.alloc (.cells #[] 3)) (some ⟨w.heap.size, 0, none⟩) 0 [] := Row.madeAt N w.heap.size w rfl hNa
  have hr3 := hr.alloc (.cells #[] 3)
  have hB3 := (But.refl g w).alloc (.cells #[] 3)
  rw [← hN] at hgN
  clear hN
  go_enter Try.func90, Try.ntmps90
  go_wp2
  go_loopw [5, 6] (fun v i wx => ∃ (k b c3 q : Nat) (o : List Int), i = .int .i64 k ∧ k ≤ M ∧ v = .slice (some ⟨b, 0, none⟩) k c3 ∧ Hid (o.length = k) ∧ Row N wx (some ⟨b, 0, none⟩) c3 o ∧ q ≤ p + k ∧ Rdr B wx g q ∧ But g w wx) (fun _ i _ => M - (intOf i).toNat)
  case atStart => exact ⟨0, _, 0, p, [], rfl, Nat.zero_le _, rfl, (show ([] : List Int).length = 0 from rfl), hR0, by omega, hr3, hB3⟩
  case round =>
    clear hR0 hr3 hB3
    obtain ⟨k, b, c3, q, o, rfl, hk, rfl, HO, hR, hq, hr3, hB3⟩ := hrel
    have ho1 : o.length ≤ k := by have := HO.out; omega
    have ho2 : k ≤ o.length := by have := HO.out; omega
    by_cases hlk : k < M
    · go_wp2_with fail
      refine (pick_pos B g q (k + 1) _ hr3 (by omega) (by omega)).mono ?_
      rintro e w3 ⟨v, rfl, v0, v1, hr4, hb4, hs4⟩
      obtain ⟨a, rfl⟩ := Int.eq_ofNat_of_zero_le v0
      have hR4 := hR.but hb4 hgN
      have hB4 := hB3.trans hb4
      have hN3 : N ≤ w3.heap.size := by have := hB4.size; omega
      have hcap := hR4.cap
      have hbN := hR4.block_lt rfl
      have ha : a ≤ k := by omega
      have z1 : (a : Int) ≤ (k : Int) := by omega
      have z2 : (k : Int) ≤ (c3 : Int) := by omega
      have z3 : (a : Int) ≤ (c3 : Int) := by omega
      have z4 : a ≤ c3 := by omega
      clear hs4 hb4
      by_cases hak : a < k
      · have hne : ¬ c3 = a := by omega
        have hdl : (o.drop a).length = k - a := by rw [List.length_drop]; have := HO.out; omega
        have CC := copyInts_all (some ⟨b, a, none⟩) (c3 - a) (k - a) (o.drop a) w3 (by simpa using hR4.lst.drop a) hdl (by omega)
        have HT := hide (hR4.take (k := a) (by omega))
        have htl := hide (show (o.take a).length = a by rw [List.length_take]; omega)
        obtain ⟨d, hd⟩ : ∃ d, d = o.drop a := ⟨_, rfl⟩
        obtain ⟨u, hu⟩ : ∃ u, u = o.take a := ⟨_, rfl⟩
        rw [← hd] at CC hdl
        rw [← hu] at HT htl
        have HD := hide hdl
        have hd0 : 0 < d.length := by omega
        have hd1 : d.length ≤ 20 := by omega
        clear hd hu hdl
        go_wp2_with fail; refine (CC).mono ?_; rintro e w5 ⟨s5, c5, rfl, R5, hb5⟩
        have E5 := Ext.of hb5
        obtain ⟨b5, rfl, x2, x3, _, x5⟩ := R5.spot hd0
        have HX := hide x5
        clear CC x5
        go_wp2_with (first | (at_builtin; refine append_int_atN rfl (.tmp 26) (.tmp 28) rfl N w5 b a c3 u (k : Int) _ rfl rfl htl.out (HT.out.ext E5) (by omega) (by have := E5.size; omega) ?_; intro g6 c6 w6 R6 hb6 hg6 hk6) | (at_builtin; refine append_list rfl (.tmp 29) (.tmp 30) rfl N w6 (some ⟨g6, 0, none⟩) (a + 1) d.length c6 c5 b5 0 (u ++ [(k : Int)]) d rfl rfl (by rw [List.length_append, htl.out]; rfl) rfl R6 (by omega) (by omega) hd0 (by have := hb6.size; have := E5.size; omega) (fun i hi => by rw [Nat.zero_add]; exact (World.cell?_of_block (hk6 b5 x3 (by omega))).trans (HX.out i hi)) ?_; intro g7 c7 w7 R7 hb7))
        have hr7 := ((hr4.keep hb5).below hb6 hgN).below hb7 hgN
        have hB7 := ((hB4.ext E5).below hb6 (by omega)).below hb7 (by omega)
        clear hb5 hb6 hb7 hg6 hk6 R5 R6
        go_wp2
        go_roundw
        case rel => exact ⟨k + 1, g7, c7, q + 1, (u ++ [(k : Int)]) ++ d, by go_num, by omega, by rw [show a + 1 + d.length = k + 1 by have := HD.out; omega], (show ((u ++ [(k : Int)]) ++ d).length = k + 1 by rw [List.length_append, List.length_append, htl.out]; have := HD.out; simp; omega), R7, by omega, hr7, hB7⟩
        case measure => simp [intOf]; omega
      · obtain rfl : a = k := by omega
        have CC := fun sx cx => copyInts_all sx cx 0 [] w3 (.inl rfl) rfl (by omega)
        by_cases hca : c3 = a
        · have hR4a : Row N w3 (some ⟨b, 0, none⟩) a o := hca ▸ hR4
          go_wp2_with fail; refine (CC _ _).mono ?_; rintro e w5 ⟨s5, c5, rfl, R5, hb5⟩
          have E5 := Ext.of hb5
          clear CC
          go_wp2_with (first | (at_builtin; refine append_int_atN rfl (.tmp 26) (.tmp 28) rfl N w5 b a a o (a : Int) _ rfl rfl HO.out (hR4a.ext E5) (by omega) (by have := E5.size; omega) ?_; intro g6 c6 w6 R6 hb6 hg6 hk6) | (at_builtin; refine append_none rfl (.tmp 29) (.tmp 30) rfl _ (some ⟨g6, 0, none⟩) s5 (a + 1) c6 c5 rfl rfl (by have := R6.cap; rw [List.length_append] at this; simp at this; omega) ?_))
          have hr7 := (hr4.keep hb5).below hb6 hgN
          have hB7 := (hB4.ext E5).below hb6 (by omega)
          clear hb5 hb6 hg6 hk6 R5
          go_wp2
          go_roundw
          case rel => exact ⟨a + 1, g6, c6, q + 1, o ++ [(a : Int)], by go_num, by omega, rfl, (show (o ++ [(a : Int)]).length = a + 1 by rw [List.length_append, HO.out]; rfl), R6, by omega, hr7, hB7⟩
          case measure => simp [intOf]; omega
        · go_wp2_with fail; refine (CC _ _).mono ?_; rintro e w5 ⟨s5, c5, rfl, R5, hb5⟩
          have E5 := Ext.of hb5
          clear CC
          go_wp2_with (first | (at_builtin; refine append_int_atN rfl (.tmp 26) (.tmp 28) rfl N w5 b a c3 o (a : Int) _ rfl rfl HO.out (hR4.ext E5) (by omega) (by have := E5.size; omega) ?_; intro g6 c6 w6 R6 hb6 hg6 hk6) | (at_builtin; refine append_none rfl (.tmp 29) (.tmp 30) rfl _ (some ⟨g6, 0, none⟩) s5 (a + 1) c6 c5 rfl rfl (by have := R6.cap; rw [List.length_append] at this; simp at this; omega) ?_))
          have hr7 := (hr4.keep hb5).below hb6 hgN
          have hB7 := (hB4.ext E5).below hb6 (by omega)
          clear hb5 hb6 hg6 hk6 R5
          go_wp2
          go_roundw
          case rel => exact ⟨a + 1, g6, c6, q + 1, o ++ [(a : Int)], by go_num, by omega, rfl, (show (o ++ [(a : Int)]).length = a + 1 by rw [List.length_append, HO.out]; rfl), R6, by omega, hr7, hB7⟩
          case measure => simp [intOf]; omega
    · have hkM : M ≤ k := by omega
      have hdk : decide ((k : Int) < (M : Int)) = false := decide_eq_false (by omega)
      clear hlk
      go_wp2
      go_ret
      exact ⟨some ⟨b, 0, none⟩, c3, o, by rw [HO.out]; rfl, hR.le hNb, by have := HO.out; omega, by have := HO.out; omega, ⟨q, by omega, hr3⟩, hB3⟩
set_option maxRecDepth 100000 in
set_option maxHeartbeats 1000000 in
theorem anyOrder_any (B g p : Nat) (w : World) (hr : Rdr B w g p) (hp : p < 9000) :
    Calls Try.prog 69 #[.pointer (some ⟨g, 0, none⟩)] w (LstOut B g p 20 0 12 w) := by
  have hgN := hr.lt
  go_enter Try.func69, Try.ntmps69
  go_wp2_with fail
  refine (one_at B g p [4, 3, 5, 1, 2, 7, 12] 1 12 _ _ _ _ rfl rfl hr (by omega) (by simp) (by simp) (by simp)).mono ?_
  rintro e w1 ⟨M, rfl, m0, m1, hr1, hb1, hs1⟩
  obtain ⟨M, rfl⟩ := Int.eq_ofNat_of_zero_le (show 0 ≤ M by omega)
  have hB1 := ((But.refl g w).alloc _).trans hb1
  have hz1 := hB1.size
  clear hr hb1 hs1
  go_wp2_with fail
  refine (turns_any B g _ M _ hr1 (by omega) (by omega)).mono ?_
  rintro e w2 ⟨sb, cb, l, rfl, hR2, l1, l2, ⟨q, hq, hr2⟩, hb2⟩
  have hB2 := hB1.trans hb2
  have hg1 : g < w1.heap.size := by omega
  clear hr1 hb2 hB1
  go_wp2_with fail
  refine (pick_pos B g q 20 _ hr2 (by omega) (by omega)).mono ?_
  rintro e w3 ⟨v, rfl, v0, v1, hr3, hb3, hs3⟩
  have hR3 := hR2.but hb3 hg1
  have hB3 := hB2.trans hb3
  clear hr2 hb3 hs3 hB2 hR2
  by_cases h0 : v = 0
  · subst h0
    obtain ⟨b, rfl, b1, b2, b3, b4⟩ := hR3.spot (by omega)
    have hz := b4 (l.length - 1) (by omega)
    have hz0 := b4 0 (by omega)
    have fz0 := b3 0
    obtain ⟨z, hzz⟩ : ∃ z, z = l.getD (l.length - 1) 0 := ⟨_, rfl⟩; rw [← hzz] at hz
    obtain ⟨y, hyy⟩ : ∃ y, y = l.getD 0 0 := ⟨_, rfl⟩; rw [← hyy] at hz0
    have ht1 : ((l.length : Int) - 1).toNat = l.length - 1 := by omega
    have i1 : (0 : Int) ≤ (l.length : Int) - 1 := by omega
    have i2 : (l.length : Int) - 1 < (l.length : Int) := by omega
    have i3 : l.length - 1 < l.length := by omega
    have i5 : 0 < l.length := by omega
    have i4 : (1 : Int) ≤ (l.length : Int) := by omega
    clear hzz hyy b3 b4
    go_wp2_with fail
    refine (one_at B g _ [-1, 12, z] (min (-1) z) (max 12 z) _ _ _ _ rfl rfl hr3 (by omega) (by simp) (by simp) (by intro x hx; simp at hx; omega)).mono ?_
    rintro e w4 ⟨x, rfl, x0, x1, hr4, hb4, hs4⟩
    have hbg : b ≠ g := by omega
    have hb4' := ((But.refl g w3).alloc _).trans hb4
    have hz4 : w4.cell? ⟨b, 0, none⟩ = some (.int .i64 y) := (hb4'.cell b 0 b2 hbg).trans hz0
    have fz4 : w4.frozen? ⟨b, 0, none⟩ = false := (hR3.but hb4' hg1).spot (by omega) |>.elim (fun b' h => by
      obtain ⟨e, _, _, hf, _⟩ := h; cases e; exact hf 0)
    have hR4 := (hR3.but hb4' hg1).store 0 x
    have hB4 := hB3.trans hb4'
    have hr5 : Rdr B (w4.setCell ⟨b, 0, none⟩ (.int .i64 x)) g _ := hr4.below ((Below.refl w1.heap.size w4).setCell b1 _) hg1
    have hB5 : But g w (w4.setCell ⟨b, 0, none⟩ (.int .i64 x)) := hB4.below ((Below.refl w1.heap.size w4).setCell b1 _) hz1
    clear hz hz0 fz0 hr3 hr4 hb4 hb4' hs4 hB3 hB4 hR3
    go_wp2
    go_ret
    exact ⟨some ⟨b, 0, none⟩, cb, l.set 0 x, by rw [List.length_set]; rfl, hR4.le hz1, by omega, by rw [List.length_set]; omega, ⟨_, by omega, hr5⟩, hB5⟩
  · have hd0 : (v == 0) = false := by rw [beq_eq_false_iff_ne]; exact h0
    by_cases h1 : v = 1
    · have hd1 : (v == 1) = true := by rw [beq_iff_eq]; exact h1
      clear h0 h1
      go_wp2
      go_ret
      exact ⟨none, 0, [], rfl, Row.nil _ _, Nat.le_refl _, by simp, ⟨_, by omega, hr3⟩, hB3⟩
    · have hd1 : (v == 1) = false := by rw [beq_eq_false_iff_ne]; exact h1
      clear h0 h1
      go_wp2
      go_ret
      exact ⟨sb, cb, l, rfl, hR3.le hz1, Nat.zero_le _, by omega, ⟨_, by omega, hr3⟩, hB3⟩
end Go.Proofs.Ythbkkbcbhhmhoac
