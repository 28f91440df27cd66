/- Chapter 4: the arguments that the laws of shares that fit, and of added shares draw. -/
import Derived.Test.YtgmhodmgbhpdaabDrawL
namespace Go.Proofs.Ytgmhodmgbhpdaab
open Go.ChangeShapes Go.WideShapes Go.ChangeAt Go.RowKit Go.Joins Go.Sort
set_option linter.unusedVariables false

set_option maxHeartbeats 1600000 in
theorem dDrawAddShares (sa : Option Addr) (len cap : Nat) (w : World) (h : Code w sa len cap) (hl : len ≤ maxLen) :
    Calls Try.prog 33 #[.slice sa len cap] w (SSk w) := by
  go_enter Try.func33, Try.ntmps33
  go_wp2_with fail
  refine (newReader_any _ _ _ _ h hl).mono ?_
  rintro e w1 ⟨rfl, hr1, hb1, hs1⟩
  have hE1 : Ext w w1 := Ext.of hb1
  have hz1 := hE1.size
  have hgl := hr1.lt
  have hB1 := But.of_below (g := w.heap.size) hE1
  clear hb1 hs1 h
  go_wp2_with fail
  refine (someShares_any _ _ _ _ hr1 (by omega)).mono ?_
  rintro e w2 ⟨s1, c1, a, rfl, RA, na, ⟨q2, hq2, hr2⟩, hb2⟩
  have hB2 := hB1.trans hb2
  have hz2 := hb2.size
  have RA1 := RA.le (base' := w.heap.size + 1) (by omega)
  have R0 := RowS.made w2.heap.size w2 (Nat.le_refl _)
  have HA := hide (RA.sst.ext ((Ext.refl w2).alloc (.cells #[] 40)))
  clear hb2 hr1 hB1 RA
  go_wp2_with (first | (at_builtin; refine append_shares rfl (.tmp 12) (.tmp 13) rfl w2.heap.size (w2.alloc (.cells #[] 40)) (some ⟨w2.heap.size, 0, none⟩) s1 0 a.length 0 c1 [] a rfl rfl rfl rfl R0 (by omega) (by omega) (by simp) HA.out ?_; intro sb cb w3 RB hb3; have H3 := hide hb3; clear hb3))
  have E3 := Ext.of (((Below.refl w2.heap.size w2).alloc (Nat.le_refl _) (.cells #[] 40)).trans H3.out)
  rw [List.nil_append] at RB
  have hr3 := hr2.keep E3
  have hB3 := But.of_below (g := w.heap.size) E3
  have hgl2 := hr2.lt
  clear H3 R0 HA hr2 E3
  go_wp2
  go_loopw [7] (fun i wr => ∃ (k q : Nat) (m : List Sh), k ≤ a.length ∧ i = .int .i64 k ∧ Hid (m.length = a.length) ∧ q ≤ q2 + k ∧ RowS w2.heap.size wr sb cb m ∧ Rdr w.heap.size wr w.heap.size q ∧ But w.heap.size w2 wr) (fun i _ => a.length - (intOf i).toNat)
  case atStart => exact ⟨0, q2, a, Nat.zero_le _, rfl, (show a.length = a.length from rfl), by omega, RB, hr3, hB3⟩
  case round =>
    clear RB hr3 hB3
    obtain ⟨k, q, m, hk, rfl, HM, hq, hR, hr, hB⟩ := hrel
    by_cases hlt : k < a.length
    · have hki : (k : Int) < (a.length : Int) := by omega
      go_wp2_with fail
      refine (pick_pos _ _ _ 251 _ hr (by omega) (by omega)).mono ?_
      rintro e w4 ⟨v, rfl, v0, v1, hr4, hb4, hs4⟩
      have hR4 := hR.but hb4 hgl2
      have hB4 := hB.trans hb4
      have hkm : k < m.length := by rw [HM.out]; exact hlt
      obtain ⟨b, rfl, hb, hbl, fz, cz⟩ := hR4.spot (by omega)
      have d1 := (cz k hkm).2
      have f1 := fz (k * 2 + 1)
      have R5 := hR4.storeY hkm v
      have HL := hide (show (m.set k ⟨(m.getD k Sh.z).x, v⟩).length = a.length by rw [List.length_set]; exact HM.out)
      obtain ⟨y, hy⟩ : ∃ y, y = (m.getD k Sh.z).y := ⟨_, rfl⟩; rw [← hy] at d1
      have r5 := hr4.put b (k * 2 + 1) (.int .i64 v) (by omega) (by omega)
      have B5 := hB4.put b (k * 2 + 1) (.int .i64 v) hb
      clear hs4 hb4 fz cz hy hkm
      go_wp2
      go_roundw
      case rel => exact ⟨k + 1, q + 1, _, by omega, by go_num, HL, by omega, R5, r5, B5⟩
      case measure => (first | (simp [intOf]; done) | (simp [intOf]; omega))
    · have hki : decide ((k : Int) < (a.length : Int)) = false := decide_eq_false (by omega)
      go_wp2_with fail
      refine (pick_pos _ _ _ 8 _ hr (by omega) (by omega)).mono ?_
      rintro e w4 ⟨v, rfl, v0, v1, hr4, hb4, hs4⟩
      have hR4 := hR.but hb4 hgl2
      have hB4 := hB.trans hb4
      clear hs4 hb4
      by_cases hv : v = 0
      · subst hv
        go_wp2_with fail
        refine (someShares_any _ _ _ _ hr4 (by omega)).mono ?_
        rintro e w5 ⟨s5, c5, bb, rfl, R5, nb, _, hb5⟩
        have hB5 := hB4.trans hb5
        have hz4 := hB4.size
        have RA5 := RA1.but hB5 (Nat.lt_succ_self _)
        have EE := Ext.of ((hB2.trans hB5).to_below (B := w.heap.size) (Nat.le_refl _) (Nat.le_refl _))
        go_wp2
        refine bodyPost_ret (v := .tuple #[.slice s1 a.length c1, .slice s5 bb.length c5]) (by simp [results, Try.results33, go_sem]) rfl ?_
        exact ⟨s1, c1, a, s5, c5, bb, rfl, RA5.le (by omega), R5.le (by omega), na, nb, EE⟩
      · have hd : (v == 0) = false := by rw [beq_eq_false_iff_ne]; exact hv
        have RA5 := RA1.but hB4 (Nat.lt_succ_self _)
        have EE := Ext.of ((hB2.trans hB4).to_below (B := w.heap.size) (Nat.le_refl _) (Nat.le_refl _))
        go_wp2
        refine bodyPost_ret (v := .tuple #[.slice s1 a.length c1, .slice sb a.length cb]) (by simp [results, Try.results33, go_sem]) rfl ?_
        exact ⟨s1, c1, a, sb, cb, m, by rw [HM.out], RA5.le (by omega), hR4.le (by omega), na, by rw [HM.out]; exact na, EE⟩
end Go.Proofs.Ytgmhodmgbhpdaab
