/- Exchanged digits: the walk of the law, at drawn arguments. -/
import Derived.Test.YtmoefeifaiimaacSwap4
import Derived.Test.YtmoefeifaiimaacLawsN
import Derived.Deep.RegionHeld3
namespace Go.Proofs.Ytmoefeifaiimaac
open Go.ChangeShapes Go.WideShapes Go.ChangeAt Go.RowKit Go.Joins
set_option linter.unusedVariables false

set_option maxHeartbeats 1000000 in
theorem isIn_yes (sa : Option Addr) (cap : Nat) (l : List Int) (n : Int) (w : World) (h : Lst w sa l) (hl : l.length ≤ 1000) (hn : n ∈ l) :
    Calls Try.prog 23 #[.slice sa l.length cap, .int .i64 n] w fun e w' => e = .returned (.bool true) ∧ w = w' := by
  have H := hide h
  have HN := hide hn
  clear h hn
  go_enter Try.func23, Try.ntmps23
  go_wp2
  go_loop [5] (fun i => ∃ k : Nat, k ≤ l.length ∧ i = .int .i64 k ∧ Hid (n ∉ l.take k)) (fun i => l.length - (intOf i).toNat)
  case atStart => exact ⟨0, Nat.zero_le _, rfl, hide (show n ∉ l.take 0 by simp)⟩
  case round =>
    obtain ⟨k, hk, rfl, hno⟩ := hrel
    by_cases hlt : k < l.length
    · obtain ⟨g, off, rfl, hg, hc⟩ := H.out.at hlt
      have Htk := hide (take_snoc_getD l k hlt)
      obtain ⟨x, hx⟩ : ∃ x, x = l.getD k 0 := ⟨_, rfl⟩
      rw [← hx] at hc Htk
      clear hx
      by_cases e : x = n
      · have e1 : (x == n) = true := by rw [beq_iff_eq]; exact e
        clear e
        go_wp2
        go_ret
        exact ⟨rfl, rfl⟩
      · have e1 : (x == n) = false := by rw [beq_eq_false_iff_ne]; exact e
        have HN2 := hide (show n ∉ l.take (k + 1) by
          rw [Htk.out, List.mem_append, List.mem_singleton]
          rintro (h | h)
          · exact hno.out h
          · exact e h.symm)
        clear e hno
        go_wp2
        go_round
        case rel => exact ⟨k + 1, hlt, by go_num, HN2⟩
        case measure => simp [intOf]; omega
    · exact absurd HN.out (by have := hno.out; rwa [List.take_of_length_le (by omega)] at this)
/-- what the law's loop reads stays -/
theorem held1_next {w w' w2 : World} {g o : Nat} {c : Value} (h : w'.cell? ⟨g, o, none⟩ = some c ∧ g < w'.heap.size ∧ Below w.heap.size w w') (hb : Below w'.heap.size w' w2) :
    w2.cell? ⟨g, o, none⟩ = some c ∧ g < w2.heap.size ∧ Below w.heap.size w w2 :=
  ⟨(hb.cell (p := ⟨g, o, none⟩) h.2.1).trans h.1, Nat.lt_of_lt_of_le h.2.1 hb.size, h.2.2.trans (hb.mono h.2.2.size)⟩
theorem held1_start {w' : World} {g o : Nat} {c : Value} (hc : w'.cell? ⟨g, o, none⟩ = some c) (hg : g < w'.heap.size) :
    w'.drew.cell? ⟨g, o, none⟩ = some c ∧ g < w'.drew.heap.size ∧ Below w'.heap.size w' w'.drew :=
  ⟨hc, hg, (Below.refl _ _).drew⟩
set_option maxRecDepth 100000 in
set_option maxHeartbeats 1000000 in
theorem walkFnSwappedOf (w : World) (sa : Option Addr) (len cap : Nat) (h : Code w sa len cap) (hl : len ≤ maxLen) :
    Calls Try.prog 6 #[.slice sa len cap] w fun e w' => e = .returned (.bool true) ∧ Below w.heap.size w w' := by
  have hl' := hl
  unfold maxLen at hl'
  by_cases hbig : 1048576 < len
  · clear h hl
    go_enter Try.func6, Try.ntmps6
    go_wp2
    go_ret
    exact ⟨rfl, Below.refl _ _⟩
  · go_enter Try.func6, Try.ntmps6
    go_wp2_with fail
    refine (drawSwappedOf_any sa len cap w h hl).mono ?_
    rintro e w1 ⟨n, rfl, _, _, hb⟩
    have B1 := hide hb
    clear hb h hl
    obtain ⟨l, hlen, HALL, Hi, Hs⟩ : ∃ l : List Int, l.length ≤ 100 ∧ Hid (∀ x ∈ l, VA n ∧ VA x ∧ x - n ≠ 0 ∧ (x - n).tmod 9 = 0 ∧ (x - n).tmod 11 ≠ 0 ∧ ssum (rdig x.toNat) = ssum (rdig n.toNat) ∧ n ∈ swapL x (rdig x.toNat) ((rdig x.toNat).length - 1)) ∧
        Hid (∀ w, Calls Try.prog 20 #[.int .i64 n] w (RetList l w)) ∧ Hid (∀ w, Calls Try.prog 22 #[.int .i64 n] w (RetList l w)) := by
      by_cases h : VA n
      · exact ⟨_, by have := swapL_len n (rdig n.toNat) ((rdig n.toNat).length - 1); have := rdig_amt n h; omega, hide (fun x hx => ⟨h, swapL_all n h x hx⟩), fun w => implSwapped_yes n w h, fun w => specSwapped_yes n w h⟩
      · exact ⟨[], by simp, hide (fun x hx => by simp at hx), fun w => implSwapped_no n w h, fun w => specSwapped_no n w h⟩
    go_wp2_with fail
    refine (Hi.out _).mono ?_
    rintro e w2 ⟨sa2, cap2, rfl, hr, hb⟩
    have B2 := hide (B1.out.trans (hb.mono B1.out.size))
    have L2 := hide hr.lst
    clear hb hr
    go_wp2_with fail
    refine (Hs.out _).mono ?_
    rintro e w3 ⟨sa3, cap3, rfl, hr, hb⟩
    have B3 := hide (B2.out.trans (hb.mono B2.out.size))
    have L3 := hide (L2.out.keep hb)
    have M3 := hide hr.lst
    clear hb hr L2
    go_wp2_with fail
    refine (equalInts_eq sa2 sa3 l cap2 cap3 _ L3.out M3.out (by omega)).mono ?_
    rintro e w4 ⟨rfl, hb⟩
    have B4 := hide (B3.out.trans (hb.mono B3.out.size))
    have L4 := hide (L3.out.keep hb)
    clear hb L3 M3
    by_cases h0 : l.length = 0
    · have d0 : ((l.length : Int) == 0) = true := by rw [beq_iff_eq]; omega
      clear h0
      go_wp2_with fail
      refine (Hs.out _).mono ?_
      rintro e w5 ⟨sa5, cap5, rfl, hr, hb⟩
      have B5 := hide (B4.out.trans (hb.mono B4.out.size))
      have L5 := hide (L4.out.keep hb)
      have M5 := hide hr.lst
      clear hb hr L4
      go_wp2_with fail
      refine (equalInts_eq sa2 sa5 l cap2 cap5 _ L5.out M5.out (by omega)).mono ?_
      rintro e w6 ⟨rfl, hb⟩
      have B6 := hide (B5.out.trans (hb.mono B5.out.size))
      clear hb
      go_wp2
      go_ret
      exact ⟨rfl, B6.out⟩
    · have d0 : ((l.length : Int) == 0) = false := by rw [beq_eq_false_iff_ne]; omega
      clear Hi Hs h0
      go_wp2
      go_loopw [5] (fun i wr => ∃ k : Nat, k ≤ l.length ∧ i = .int .i64 k ∧ Below w.heap.size w wr ∧ Below w4.heap.size w4 wr)
        (fun i _ => l.length - (intOf i).toNat)
      case atStart => exact ⟨0, Nat.zero_le _, rfl, B4.out, Below.refl _ _⟩
      case round =>
        clear B4
        obtain ⟨k, hk, rfl, hB, hD⟩ := hrel
        have HB := hide hB
        have HD := hide hD
        clear hB hD
        by_cases hlt : k < l.length
        · obtain ⟨g, off, rfl, hg, hc⟩ := (L4.out.keep HD.out).at hlt
          obtain ⟨hn, hx, q0, q9, q11, qs, qm⟩ := HALL.out _ (getD_in hlt)
          obtain ⟨x, ex⟩ : ∃ x, x = l.getD k 0 := ⟨_, rfl⟩
          rw [← ex] at hc hx q0 q9 q11 qs qm
          clear ex
          obtain ⟨n1, n2⟩ := id hn
          obtain ⟨x1, x2⟩ := id hx
          have Hx := hide (fun w => implDigitSum_yes x w hx)
          have Hn := hide (fun w => implDigitSum_yes n w hn)
          rw [qs] at Hx
          have Hl := hide (fun w => implSwapped_yes x w hx)
          have hll : (swapL x (rdig x.toNat) ((rdig x.toNat).length - 1)).length ≤ 100 := by
            have := swapL_len x (rdig x.toNat) ((rdig x.toNat).length - 1); have := rdig_amt x hx; omega
          have QM := hide qm
          have hlenx := hide hll
          obtain ⟨l2, el⟩ : ∃ l2, l2 = swapL x (rdig x.toNat) ((rdig x.toNat).length - 1) := ⟨_, rfl⟩
          obtain ⟨v, ev⟩ : ∃ v, v = ssum (rdig n.toNat) := ⟨_, rfl⟩
          rw [← el] at Hl QM hlenx
          rw [← ev] at Hx Hn
          clear el ev qs qm hll hn hx
          have g1 : IntKind.i64.wrap (x - n) = x - n := IntWalk.i64_in _ (by omega)
          have t0 : ((x - n) == 0) = false := by rw [beq_eq_false_iff_ne]; exact q0
          have t9 : (((x - n).tmod 9) == 0) = true := by rw [beq_iff_eq]; exact q9
          have t11 : (((x - n).tmod 11) == 0) = false := by rw [beq_eq_false_iff_ne]; exact q11
          have tv : (v == v) = true := by simp
          have tx : decide (x ≤ 1000000) = true := decide_eq_true x2
          have t9' : (((x - n).tmod 9) != 0) = false := by rw [bne, t9]; rfl
          have tv' : (v != v) = false := by simp
          have LX := hide (show wr.cell? ⟨g, off + k, none⟩ = some (.int .i64 x) ∧ g < wr.heap.size ∧ Below wr.heap.size wr wr from ⟨hc, hg, Below.refl _ _⟩)
          clear q0 q9 q11
          go_wp2_with fail
          refine (Hx.out _).mono ?_
          rintro e w5 ⟨rfl, hb⟩
          have B5 := hide (HB.out.trans (hb.mono HB.out.size))
          have D5 := hide (HD.out.trans (hb.mono HD.out.size))
          have L5 := hide (held1_next LX.out hb)
          have c5 := L5.out.1
          clear hb hc LX HB HD Hx
          go_wp2_with fail
          refine (Hn.out _).mono ?_
          rintro e w6 ⟨rfl, hb⟩
          have B6 := hide (B5.out.trans (hb.mono B5.out.size))
          have D6 := hide (D5.out.trans (hb.mono D5.out.size))
          have L6 := hide (held1_next L5.out hb)
          have c6 := L6.out.1
          clear hb c5 L5 B5 D5 Hn
          go_wp2_with fail
          refine (Hl.out _).mono ?_
          rintro e w7 ⟨sa7, cap7, rfl, hr, hb⟩
          have B7 := hide (B6.out.trans (hb.mono B6.out.size))
          have D7 := hide (D6.out.trans (hb.mono D6.out.size))
          have L7 := hide (held1_next L6.out hb)
          have c7 := L7.out.1
          have M7 := hide hr.lst
          clear hb hr c6 L6 B6 D6 Hl
          go_wp2_with fail
          refine (isIn_yes _ _ l2 n _ M7.out (by have := hlenx.out; omega) QM.out).mono ?_
          rintro e w' ⟨rfl, rfl⟩
          go_wp2
          go_roundw
          case rel => exact ⟨k + 1, hlt, by go_num, B7.out, D7.out⟩
          case measure => simp [intOf]; omega
        · go_wp2
          go_ret
          exact ⟨rfl, HB.out⟩
end Go.Proofs.Ytmoefeifaiimaac
