/- Chapter 1: the walks of the laws of OwedAfter, at drawn arguments. -/
import Derived.Test.YtmoefeifaiimaabMoney4
import Derived.Test.YtmoefeifaiimaabDraw6
import Derived.Deep.RegionHeld3
namespace Go.Proofs.Ytmoefeifaiimaab
open Go.ChangeShapes Go.WideShapes Go.ChangeAt Go.RowKit Go.Joins
set_option linter.unusedVariables false

theorem equalInts_same (sa sb : Option Addr) (a : List Int) (ca cb : Nat) (w : World) (ha : Lst w sa a) (hb : Lst w sb a) (la : a.length ≤ 1000000) :
    Calls Try.prog 20 #[.slice sa a.length ca, .slice sb a.length cb] w (EqRet true w) :=
  (equalInts_any sa sb a a ca cb w ha hb la la).mono fun e w' ⟨he, hb⟩ => ⟨by rw [he]; simp, hb⟩

/-- what the loop of the law reads stays: the rate's box, and one number of the list -/
theorem held2_next {w w' w2 : World} {x g o : Nat} {a b c : Value} (h : w'.cell? ⟨x, 0, none⟩ = some a ∧ w'.cell? ⟨x, 1, none⟩ = some b ∧ w'.cell? ⟨g, o, none⟩ = some c ∧ x < w'.heap.size ∧ g < w'.heap.size ∧ Below w.heap.size w w') (hb : Below w'.heap.size w' w2) :
    w2.cell? ⟨x, 0, none⟩ = some a ∧ w2.cell? ⟨x, 1, none⟩ = some b ∧ w2.cell? ⟨g, o, none⟩ = some c ∧ x < w2.heap.size ∧ g < w2.heap.size ∧ Below w.heap.size w w2 := by
  obtain ⟨h1, h2, h3, h4, h5, h6⟩ := h
  obtain ⟨hc, _⟩ := bcell hb
  exact ⟨(hc _ _ h4).trans h1, (hc _ _ h4).trans h2, (hc _ _ h5).trans h3, Nat.lt_of_lt_of_le h4 hb.size, Nat.lt_of_lt_of_le h5 hb.size, h6.trans (hb.mono h6.size)⟩
theorem held2_start {w w' : World} {x g o : Nat} {a b c : Value} {T : TypeId} (h : w'.heap[x]? = some (.cells #[a, b] T (0, 0))) (hc : w'.cell? ⟨g, o, none⟩ = some c) (hB : Below w.heap.size w w') :
    w'.drew.cell? ⟨x, 0, none⟩ = some a ∧ w'.drew.cell? ⟨x, 1, none⟩ = some b ∧ w'.drew.cell? ⟨g, o, none⟩ = some c ∧ x < w'.drew.heap.size ∧ g < w'.drew.heap.size ∧ Below w.heap.size w w'.drew := by
  obtain ⟨a1, a2, _, _⟩ := box2 h
  exact ⟨a1, a2, hc, size_of_heap h, World.block_lt_of_cell? _ _ hc, hB.drew⟩

set_option maxRecDepth 100000 in
set_option maxHeartbeats 400000 in
theorem walkFnOwedAfter (w : World) (sa : Option Addr) (len cap : Nat) (h : Code w sa len cap) (hl : len ≤ maxLen) :
    Calls Try.prog 5 #[.slice sa len cap] w fun e w' => e = .returned (.bool true) ∧ Below w.heap.size w w' := by
  have hl' := hl
  unfold maxLen at hl'
  by_cases hbig : 1048576 < len
  · clear h hl
    go_enter Try.func5, Try.ntmps5
    go_wp2
    go_ret
    exact ⟨rfl, Below.refl _ _⟩
  · go_enter Try.func5, Try.ntmps5
    go_wp2_with fail
    refine (drawOwedAfter_any sa len cap w h hl).mono ?_
    rintro e w1 ⟨n, p, q, pay, rfl, _, _, _, _, _, _, g1, g2, hb⟩
    have B1 := hide hb
    clear hb h hl
    obtain ⟨l, hlen, Hi, Hs, Hp⟩ : ∃ l : List Int, l.length ≤ 60 ∧ Hid (∀ w, Calls Try.prog 19 #[.int .i64 n, .agg #[.int .i64 p, .int .i64 q], .int .i64 pay] w (RetList l w)) ∧ Hid (∀ w, Calls Try.prog 21 #[.int .i64 n, .agg #[.int .i64 p, .int .i64 q], .int .i64 pay] w (RetList l w)) ∧
        Hid (l ≠ [] → VA n ∧ VR p q ∧ VA pay ∧ l = bal p q pay 60 n ∧ ∀ x ∈ l, 0 ≤ x ∧ x ≤ 1000000) := by
      by_cases h : VA n ∧ VR p q ∧ VA pay
      · refine ⟨owedL p q pay n, owedL_len _ _ _ _, fun w => implOwedAfter_yes n p q pay w h.1 h.2.1 h.2.2, fun w => specOwedAfter_yes n p q pay w h.1 h.2.1 h.2.2, fun hne => ⟨h.1, h.2.1, h.2.2, ?_⟩⟩
        unfold owedL at hne ⊢
        split
        · exact ⟨rfl, by assumption⟩
        · rename_i hh; rw [if_neg hh] at hne; exact absurd rfl hne
      · exact ⟨[], by simp, fun w => implOwedAfter_no n p q pay w h, fun w => specOwedAfter_no n p q pay w h, fun hne => absurd rfl hne⟩
    go_wp2_with fail
    refine (Hi.out _).mono ?_
    rintro e w2 ⟨sa1, cap1, rfl, hr, hb⟩
    have X2 := hide (below_box hb (by simp) (box_new w1 _ _))
    have hz2 : w1.heap.size < w2.heap.size := by have := hb.size; simp at this; omega
    have B2 := hide ((B1.out.alloc B1.out.size _).trans (hb.mono (Nat.le_trans B1.out.size (by simp))))
    have L2 := hide hr.lst
    clear hb hr
    obtain ⟨c0, c1, _, _⟩ := box2 X2.out
    go_wp2_with fail
    refine (Hs.out _).mono ?_
    rintro e w3 ⟨sa2, cap2, rfl, hr, hb⟩
    have X3 := hide (below_box hb hz2 X2.out)
    have hz3 := Nat.lt_of_lt_of_le hz2 hb.size
    have B3 := hide (B2.out.trans (hb.mono B2.out.size))
    have L3 := hide (L2.out.keep hb)
    have M3 := hide hr.lst
    clear hb hr c0 c1 L2 X2
    go_wp2_with fail
    refine (equalInts_same sa1 sa2 l cap1 cap2 _ L3.out M3.out (by omega)).mono ?_
    rintro e w4 ⟨rfl, hb⟩
    have X4 := hide (below_box hb hz3 X3.out)
    have hz4 := Nat.lt_of_lt_of_le hz3 hb.size
    have B4 := hide (B3.out.trans (hb.mono B3.out.size))
    have L4 := hide (L3.out.keep hb)
    clear hb L3 M3 X3
    by_cases h0 : l.length = 0
    · obtain rfl := List.length_eq_zero_iff.1 h0
      obtain ⟨c0, c1, _, _⟩ := box2 X4.out
      clear Hp Hi
      go_wp2_with fail
      refine (Hs.out _).mono ?_
      rintro e w5 ⟨sa3, cap3, rfl, hr, hb⟩
      have B5 := hide (B4.out.trans (hb.mono B4.out.size))
      have L5 := hide (L4.out.keep hb)
      have M5 := hide hr.lst
      clear hb hr c0 c1 h0
      go_wp2_with fail
      refine (equalInts_same sa1 sa3 [] cap1 cap3 _ L5.out M5.out (by simp)).mono ?_
      rintro e w6 ⟨rfl, hb⟩
      have B6 := hide (B5.out.trans (hb.mono B5.out.size))
      clear hb
      go_wp2
      go_ret
      exact ⟨rfl, B6.out⟩
    · have h0' : ((l.length : Int) == 0) = false := by simp; intro h; subst h; simp at h0
      obtain ⟨ha, hv, hpay, hbal, hall⟩ := Hp.out (by intro h; subst h; simp at h0)
      obtain ⟨v1, v2, v3, v4⟩ := id hv
      have n1 := ha.1
      have n2 := ha.2
      have s1 := hpay.1
      have s2 := hpay.2
      have HS := hide (fun i hi => bal_step p q pay 60 n i hi)
      have HE := hide (bal_end p q pay 60 n)
      rw [← hbal] at HS HE
      have HA := hide hall
      clear hall hbal ha Hp Hi Hs h0
      go_wp2
      go_loopw [7, 8] (fun a i wr => ∃ k : Nat, k ≤ l.length ∧ i = .int .i64 k ∧ a = .int .i64 (lastOr n (l.take k)) ∧ wr.heap[w1.heap.size]? = some (.cells #[.int .i64 p, .int .i64 q] 24 (0, 0)) ∧ Below w.heap.size w wr ∧ Below w4.heap.size w4 wr)
        (fun _ i _ => l.length - (intOf i).toNat)
      case atStart => exact ⟨0, Nat.zero_le _, rfl, rfl, X4.out, B4.out, Below.refl _ _⟩
      case round =>
        clear X4 B4 hz4
        obtain ⟨k, hk, rfl, rfl, hx, hB, hD⟩ := hrel
        have HB := hide hB
        have HD := hide hD
        have HX := hide hx
        clear hB hx hD
        by_cases hlt : k < l.length
        · obtain ⟨o1, o2, o3⟩ := HS.out k hlt
          have Htk := hide (show l.take (k + 1) = l.take k ++ [l.getD k 0] by rw [List.take_succ_eq_append_getElem hlt, List.getD_eq_getElem?_getD, List.getElem?_eq_getElem hlt]; rfl)
          have HT := hide (lastOr_snoc (l.take k) n (l.getD k 0))
          obtain ⟨g, off, he', hg, hc⟩ := (L4.out.keep HD.out).at hlt
          cases he'
          obtain ⟨y, hy⟩ : ∃ y, y = l.getD k 0 := ⟨_, rfl⟩
          obtain ⟨b, hb'⟩ : ∃ s, s = lastOr n (l.take k) := ⟨_, rfl⟩
          rw [← hy] at hc Htk HT o3
          rw [← hb'] at o1 o2 o3
          rw [← hb']
          clear hy hb'
          have hbd := reven_bd b p q (by omega) v3 v4 v1
          have HM := hide (show onext p q pay b = max 0 (b + reven b p q - pay) from rfl)
          have hev := hide (implRoundEven_yes b p q · ⟨by omega, o2⟩ hv)
          obtain ⟨t, ht⟩ : ∃ t, t = reven b p q := ⟨_, rfl⟩
          rw [← ht] at hbd HM hev
          clear ht
          rcases (show (0 < b + t - pay ∧ y = b + t - pay) ∨ (b + t - pay ≤ 0 ∧ y = 0) by rw [o3, HM.out]; omega) with ⟨q1, rfl⟩ | ⟨q1, rfl⟩
          · clear o3 HM
            have hd : decide (b ≤ 0) = false := by simp; omega
            have e1 : IntKind.i64.wrap (b + t) = b + t := IntWalk.i64_in _ (by omega)
            have e2 : IntKind.i64.wrap (b + t - pay) = b + t - pay := IntWalk.i64_in _ (by omega)
            go_wp2_with fail
            go_region_held3 (fun w' => w'.cell? ⟨w1.heap.size, 0, none⟩ = some (.int .i64 p) ∧ w'.cell? ⟨w1.heap.size, 1, none⟩ = some (.int .i64 q) ∧ w'.cell? ⟨g, off + k, none⟩ = some (.int .i64 (b + t - pay)) ∧ w1.heap.size < w'.heap.size ∧ g < w'.heap.size ∧ Below wr.heap.size wr w')
              (first | assumption | exact held2_start HX.out hc (Below.refl _ _) | exact held2_next (by assumption) hb)
              (first | (go_at_call 22; refine (hev.out _).mono ?_; rintro e w5 ⟨rfl, hb⟩))
            rename_i hh
            have D5 := hide hh.2.2.2.2.2
            have c5 := hh.2.2.1
            clear hh
            have X5 := hide (below_box D5.out (size_of_heap HX.out) HX.out)
            have B5 := hide (HB.out.trans (D5.out.mono HB.out.size))
            have D6 := hide (HD.out.trans (D5.out.mono HD.out.size))
            clear HX HB HD D5 hc hev e1 e2
            go_wp2
            go_roundw
            case rel => exact ⟨k + 1, hlt, by go_num, by rw [Htk.out, HT.out], X5.out, B5.out, D6.out⟩
            case measure => simp [intOf]; omega
          · clear o3 HM
            have hd : decide (b ≤ 0) = false := by simp; omega
            have e1 : IntKind.i64.wrap (b + t) = b + t := IntWalk.i64_in _ (by omega)
            have e2 : IntKind.i64.wrap (b + t - pay) = b + t - pay := IntWalk.i64_in _ (by omega)
            go_wp2_with fail
            go_region_held3 (fun w' => w'.cell? ⟨w1.heap.size, 0, none⟩ = some (.int .i64 p) ∧ w'.cell? ⟨w1.heap.size, 1, none⟩ = some (.int .i64 q) ∧ w'.cell? ⟨g, off + k, none⟩ = some (.int .i64 (0)) ∧ w1.heap.size < w'.heap.size ∧ g < w'.heap.size ∧ Below wr.heap.size wr w')
              (first | assumption | exact held2_start HX.out hc (Below.refl _ _) | exact held2_next (by assumption) hb)
              (first | (go_at_call 22; refine (hev.out _).mono ?_; rintro e w5 ⟨rfl, hb⟩))
            rename_i hh
            have D5 := hide hh.2.2.2.2.2
            have c5 := hh.2.2.1
            clear hh
            have X5 := hide (below_box D5.out (size_of_heap HX.out) HX.out)
            have B5 := hide (HB.out.trans (D5.out.mono HB.out.size))
            have D6 := hide (HD.out.trans (D5.out.mono HD.out.size))
            clear HX HB HD D5 hc hev e1 e2
            go_wp2
            go_roundw
            case rel => exact ⟨k + 1, hlt, by go_num, by rw [Htk.out, HT.out], X5.out, B5.out, D6.out⟩
            case measure => simp [intOf]; omega
        · have Hl := hide (show l.take k = l from List.take_of_length_le (by omega))
          have hin := lastOr_in l n n1 n2 HA.out
          have HEE := hide (show lastOr n l = 0 ∨ l.length = 60 by
            by_cases h60 : l.length < 60
            · have := HE.out h60
              left; omega
            · right; omega)
          rw [Hl.out]
          obtain ⟨b, hb'⟩ : ∃ s, s = lastOr n l := ⟨_, rfl⟩
          rw [← hb'] at hin HEE ⊢
          clear hb' HE HA HS
          by_cases hb0 : b = 0
          · subst hb0
            go_wp2
            go_ret
            exact ⟨rfl, HB.out⟩
          · have k1 : ((b : Int) == 0) = false := by simp [hb0]
            have k2 : ((l.length : Int) == 60) = true := by
              rcases HEE.out with h | h
              · exact absurd h hb0
              · simp [h]
            clear hb0
            go_wp2
            go_ret
            exact ⟨rfl, HB.out⟩
end Go.Proofs.Ytmoefeifaiimaab
