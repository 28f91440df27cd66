/- The generator's lists of choices: contracts over the reader. -/
import Derived.Test.YtgmhodmgbhpdaacAppL
namespace Go.Proofs.Ytgmhodmgbhpdaac
open Go.ChangeShapes Go.WideShapes Go.ChangeAt Go.RowKit Go.Joins
set_option linter.unusedVariables false

/-- lists that were drawn: each of M numbers -/
def MatOut (B g p k mx : Nat) (w : World) (e : Ending) (w' : World) : Prop :=
  ∃ (sa : Option Addr) (cap : Nat) (ll : List (List Int)) (hs : Heads) (M : Nat), e = .returned (.slice sa ll.length cap) ∧ Mat w.heap.size w' sa cap ll hs ∧ 1 ≤ ll.length ∧ ll.length ≤ mx ∧ 1 ≤ M ∧ M ≤ 6 ∧ (∀ i, i < ll.length → (ll.getD i []).length ≤ M) ∧ M ≤ (ll.getD 0 []).length ∧ (∃ q, q ≤ p + k ∧ Rdr B w' g q) ∧ But g w w'

theorem len_snocR (o : List (List Int)) (x : List Int) : o.length + 1 = (o ++ [x]).length := by simp
set_option maxRecDepth 100000 in
set_option maxHeartbeats 1000000 in
theorem someRanks_any (B g p : Nat) (w : World) (hr : Rdr B w g p) (hp : p < 10000) :
    Calls Try.prog 99 #[.pointer (some ⟨g, 0, none⟩)] w (MatOut B g p 80 7 w) := by
  have hlt := hr.lt
  go_enter Try.func99, Try.ntmps99
  go_wp2_with fail
  refine (one_at B g p [3, 4, 2, 5, 1, 6] 1 6 _ _ _ _ rfl rfl hr (by omega) (by simp) (by simp) (by simp)).mono ?_
  rintro e w1 ⟨M, rfl, m0, m1, hr1, hb1, hs1⟩
  obtain ⟨M, rfl⟩ := Int.eq_ofNat_of_zero_le (show 0 ≤ M by omega)
  have hB1 := (But.refl g w).alloc _ |>.trans hb1
  clear hs1 hb1
  go_wp2_with fail
  refine (one_at B g (p + 1) [3, 5, 4, 1, 7, 2] 1 7 _ _ _ _ (by simp) rfl (hr1.alloc _) (by omega) (by simp) (by simp) (by simp)).mono ?_
  rintro e w2 ⟨n, rfl, n0, n1, hr2, hb2, hs2⟩
  obtain ⟨n, rfl⟩ := Int.eq_ofNat_of_zero_le (show 0 ≤ n by omega)
  have hz1 := hB1.size
  have hM2 := (Mat.made w.heap.size w1 hz1).ext ((Ext.refl _).alloc (.cells #[.int .i64 3, .int .i64 5, .int .i64 4, .int .i64 1, .int .i64 7, .int .i64 2] 3)) |>.but hb2 hlt
  have hB2 := ((hB1.alloc _).alloc _).trans hb2
  clear hs2 hb2 hr1 hB1
  go_wp2
  go_loopw [4, 5] (fun o i wr => ∃ (c q : Nat) (s2 : Option Addr) (c2 : Nat) (ll : List (List Int)) (hs : Heads), i = .int .i64 c ∧ o = .slice s2 ll.length c2 ∧ ll.length + c ≤ n ∧ n ≤ ll.length + c ∧ Hid (∀ i, i < ll.length → (ll.getD i []).length = M) ∧ Mat w.heap.size wr s2 c2 ll hs ∧ q ≤ p + 2 + 7 * ll.length ∧ Rdr B wr g q ∧ But g w wr) (fun _ i _ => (intOf i).toNat)
  case atStart => exact ⟨n, p + 1 + 1, _, 0, [], [], rfl, rfl, by simp, by simp, (show ∀ i, i < ([] : List (List Int)).length → _ from fun i hi => absurd hi (Nat.not_lt_zero _)), hM2, by simp, hr2, hB2⟩
  case round =>
    clear hM2 hr2 hB2
    obtain ⟨c, q0, s2, c2, ll, hs, rfl, rfl, hc1, hc2, HL, hMt, hq0, hr2, hB2⟩ := hrel
    by_cases hlt2 : 0 < c
    · obtain ⟨N, hN⟩ : ∃ N, N = wr.heap.size := ⟨_, rfl⟩
      have hgN : g < N := by rw [hN]; exact hr2.lt
      have hlow := hr2.low
      have hwN : w.heap.size ≤ N := by rw [hN]; exact hB2.size
      have hMlt : MatLt N s2 ll hs := by rw [hN]; exact hMt.lt
      have hNa : N ≤ wr.heap.size := Nat.le_of_eq hN
      have hNb : wr.heap.size ≤ N := Nat.le_of_eq hN.symm
      have hR0 : Row N (wr.alloc (.cells #[] 3)) (some ⟨wr.heap.size, 0, none⟩) 0 [] := Row.madeAt N wr.heap.size wr rfl hNa
      have hr3 := hr2.alloc (.cells #[] 3)
      have hB3 := (But.refl g wr).alloc (.cells #[] 3)
      clear hN
      go_wp2
      go_loopw [6, 7] (fun v i wx => ∃ (k b c3 q : Nat) (o : List Int), i = .int .i64 k ∧ k ≤ M ∧ v = .slice (some ⟨b, 0, none⟩) k c3 ∧ Hid (o.length = k) ∧ Row N wx (some ⟨b, 0, none⟩) c3 o ∧ q ≤ q0 + k ∧ Rdr B wx g q ∧ But g wr wx) (fun _ i _ => M - (intOf i).toNat)
      case atStart => exact ⟨0, _, 0, q0, [], rfl, Nat.zero_le _, rfl, (show ([] : List Int).length = 0 from rfl), hR0, by omega, hr3, hB3⟩
      case round =>
        clear hR0 hr3 hB3
        obtain ⟨k, b, c3, q, o, rfl, hk, rfl, HO, hR, hq, hr3, hB3⟩ := hrel
        have ho1 : o.length ≤ k := by have := HO.out; omega
        have ho2 : k ≤ o.length := by have := HO.out; omega
        by_cases hlk : k < M
        · go_wp2_with fail
          refine (pick_pos B g q (k + 1) _ hr3 (by omega) (by omega)).mono ?_
          rintro e w3 ⟨v, rfl, v0, v1, hr4, hb4, hs4⟩
          obtain ⟨a, rfl⟩ := Int.eq_ofNat_of_zero_le v0
          have hR4 := hR.but hb4 hgN
          have hB4 := hB3.trans hb4
          have hN3 : N ≤ w3.heap.size := by have := hB4.size; omega
          have hcap := hR4.cap
          have hbN := hR4.block_lt rfl
          have ha : a ≤ k := by omega
          have z1 : (a : Int) ≤ (k : Int) := by omega
          have z2 : (k : Int) ≤ (c3 : Int) := by omega
          have z3 : (a : Int) ≤ (c3 : Int) := by omega
          have z4 : a ≤ c3 := by omega
          clear hs4 hb4
          by_cases hak : a < k
          · have hne : ¬ c3 = a := by omega
            have hdl : (o.drop a).length = k - a := by rw [List.length_drop]; have := HO.out; omega
            have CC := copyInts_all (some ⟨b, a, none⟩) (c3 - a) (k - a) (o.drop a) w3 (by simpa using hR4.lst.drop a) hdl (by omega)
            have HT := hide (hR4.take (k := a) (by omega))
            have htl := hide (show (o.take a).length = a by rw [List.length_take]; omega)
            obtain ⟨d, hd⟩ : ∃ d, d = o.drop a := ⟨_, rfl⟩
            obtain ⟨u, hu⟩ : ∃ u, u = o.take a := ⟨_, rfl⟩
            rw [← hd] at CC hdl
            rw [← hu] at HT htl
            have HD := hide hdl
            have hd0 : 0 < d.length := by omega
            have hd1 : d.length ≤ 10 := by omega
            clear hd hu hdl
            go_wp2_with fail; refine (CC).mono ?_; rintro e w5 ⟨s5, c5, rfl, R5, hb5⟩
            have E5 := Ext.of hb5
            obtain ⟨b5, rfl, x2, x3, _, x5⟩ := R5.spot hd0
            have HX := hide x5
            clear CC x5
            go_wp2_with (first | (at_builtin; refine append_int_atN rfl (.tmp 38) (.tmp 40) rfl N w5 b a c3 u (k : Int) _ rfl rfl htl.out (HT.out.ext E5) (by omega) (by have := E5.size; omega) ?_; intro g6 c6 w6 R6 hb6 hg6 hk6) | (at_builtin; refine append_list rfl (.tmp 41) (.tmp 42) rfl N w6 (some ⟨g6, 0, none⟩) (a + 1) d.length c6 c5 b5 0 (u ++ [(k : Int)]) d rfl rfl (by rw [List.length_append, htl.out]; rfl) rfl R6 (by omega) (by omega) hd0 (by have := hb6.size; have := E5.size; omega) (fun i hi => by rw [Nat.zero_add]; exact (World.cell?_of_block (hk6 b5 x3 (by omega))).trans (HX.out i hi)) ?_; intro g7 c7 w7 R7 hb7))
            have hr7 := ((hr4.keep hb5).below hb6 hgN).below hb7 hgN
            have hB7 := ((hB4.ext E5).below hb6 (by omega)).below hb7 (by omega)
            clear hb5 hb6 hb7 hg6 hk6 R5 R6
            go_wp2
            go_roundw
            case rel => exact ⟨k + 1, g7, c7, q + 1, (u ++ [(k : Int)]) ++ d, by go_num, by omega, by rw [show a + 1 + d.length = k + 1 by have := HD.out; omega], (show ((u ++ [(k : Int)]) ++ d).length = k + 1 by rw [List.length_append, List.length_append, htl.out]; have := HD.out; simp; omega), R7, by omega, hr7, hB7⟩
            case measure => simp [intOf]; omega
          · obtain rfl : a = k := by omega
            have CC := fun sx cx => copyInts_all sx cx 0 [] w3 (.inl rfl) rfl (by omega)
            by_cases hca : c3 = a
            · have hR4a : Row N w3 (some ⟨b, 0, none⟩) a o := hca ▸ hR4
              go_wp2_with fail; refine (CC _ _).mono ?_; rintro e w5 ⟨s5, c5, rfl, R5, hb5⟩
              have E5 := Ext.of hb5
              clear CC
              go_wp2_with (first | (at_builtin; refine append_int_atN rfl (.tmp 38) (.tmp 40) rfl N w5 b a a o (a : Int) _ rfl rfl HO.out (hR4a.ext E5) (by omega) (by have := E5.size; omega) ?_; intro g6 c6 w6 R6 hb6 hg6 hk6) | (at_builtin; refine append_none rfl (.tmp 41) (.tmp 42) rfl _ (some ⟨g6, 0, none⟩) s5 (a + 1) c6 c5 rfl rfl (by have := R6.cap; rw [List.length_append] at this; simp at this; omega) ?_))
              have hr7 := (hr4.keep hb5).below hb6 hgN
              have hB7 := (hB4.ext E5).below hb6 (by omega)
              clear hb5 hb6 hg6 hk6 R5
              go_wp2
              go_roundw
              case rel => exact ⟨a + 1, g6, c6, q + 1, o ++ [(a : Int)], by go_num, by omega, rfl, (show (o ++ [(a : Int)]).length = a + 1 by rw [List.length_append, HO.out]; rfl), R6, by omega, hr7, hB7⟩
              case measure => simp [intOf]; omega
            · go_wp2_with fail; refine (CC _ _).mono ?_; rintro e w5 ⟨s5, c5, rfl, R5, hb5⟩
              have E5 := Ext.of hb5
              clear CC
              go_wp2_with (first | (at_builtin; refine append_int_atN rfl (.tmp 38) (.tmp 40) rfl N w5 b a c3 o (a : Int) _ rfl rfl HO.out (hR4.ext E5) (by omega) (by have := E5.size; omega) ?_; intro g6 c6 w6 R6 hb6 hg6 hk6) | (at_builtin; refine append_none rfl (.tmp 41) (.tmp 42) rfl _ (some ⟨g6, 0, none⟩) s5 (a + 1) c6 c5 rfl rfl (by have := R6.cap; rw [List.length_append] at this; simp at this; omega) ?_))
              have hr7 := (hr4.keep hb5).below hb6 hgN
              have hB7 := (hB4.ext E5).below hb6 (by omega)
              clear hb5 hb6 hg6 hk6 R5
              go_wp2
              go_roundw
              case rel => exact ⟨a + 1, g6, c6, q + 1, o ++ [(a : Int)], by go_num, by omega, rfl, (show (o ++ [(a : Int)]).length = a + 1 by rw [List.length_append, HO.out]; rfl), R6, by omega, hr7, hB7⟩
              case measure => simp [intOf]; omega
        · have hkM : M ≤ k := by omega
          have hdk : decide ((k : Int) < (M : Int)) = false := decide_eq_false (by omega)
          have hM3 := hMt.but hB3 hlt
          have hN3 : N ≤ wr.heap.size := by have := hB3.size; omega
          clear hlk
          go_wp2_with (first | (at_builtin; refine append_rowB (s := .tmp 44) (x := .tmp 46) rfl rfl rfl rfl HO.out hM3 hMlt hR (by omega) hwN hN3 ?_; intro g4 c4 w4 M4 hb4))
          have hr5 := hr3.below hb4 hlt
          have hB5 := (hB2.trans hB3).below hb4 (Nat.le_refl _)
          have HL2 := hide (show ∀ i, i < (ll ++ [o]).length → ((ll ++ [o]).getD i []).length = M from fun i hi => by
            rw [List.length_append, List.length_singleton] at hi
            by_cases e : i = ll.length
            · rw [e, getD_snoc_eq, HO.out]; omega
            · rw [getD_snoc_lt _ _ _ (by omega)]; exact HL.out i (by omega))
          clear hb4
          go_wp2
          go_roundw
          case rel => exact ⟨c - 1, q, some ⟨g4, 0, none⟩, c4, ll ++ [o], _, by go_num, by rw [len_snocR ll o], by rw [List.length_append]; simp; omega, by rw [List.length_append]; simp; omega, HL2, M4, by rw [List.length_append]; simp; omega, hr5, hB5⟩
          case measure => simp [intOf]; omega
    · have hd0 : decide ((0 : Int) < (c : Int)) = false := decide_eq_false (by omega)
      have hc0 : c = 0 := by omega
      clear hlt2
      go_wp2
      go_ret
      exact ⟨s2, c2, ll, hs, M, rfl, hMt, by omega, by omega, by omega, by omega, fun i hi => Nat.le_of_eq (HL.out i hi), Nat.le_of_eq (HL.out 0 (by omega)).symm, ⟨q0, by omega, hr2⟩, hB2⟩
end Go.Proofs.Ytgmhodmgbhpdaac
