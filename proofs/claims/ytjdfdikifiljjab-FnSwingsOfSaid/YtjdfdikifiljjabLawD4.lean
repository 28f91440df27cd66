/- Chapter 2: the walk of the law of swings, at drawn arguments. -/
import Derived.Test.YtjdfdikifiljjabLawW
import Derived.Test.YtjdfdikifiljjabPureE
import Derived.Test.YtjdfdikifiljjabDrawE
namespace Go.Proofs.Ytjdfdikifiljjab
open Go.ChangeShapes Go.WideShapes Go.ChangeAt Go.RowKit Go.Joins Go.Sort
set_option linter.unusedVariables false

theorem swL_len2 {l : List Int} {need : Int} (h : sb l need = true) : (swL l need).length = l.length := by unfold swL; rw [if_pos h, accL_len]
theorem mono_sw {l : List Int} {need : Int} {i k : Nat} (h : sb l need = true) (hi : i < l.length) (hk : k < l.length) (hw : l.getD k 0 ≤ l.getD i 0) : (swL l need).getD k 0 ≤ (swL l need).getD i 0 := sw_mono h hi hk hw

set_option maxRecDepth 100000 in
set_option maxHeartbeats 2000000 in
theorem walkFnSwingsOf (w : World) (sa : Option Addr) (len cap : Nat) (h : Code w sa len cap) (hl : len ≤ maxLen) :
    Calls Try.prog 12 #[.slice sa len cap] w fun e w' => e = .returned (.bool true) ∧ Below w.heap.size w w' := by
  have hl' := hl
  unfold maxLen at hl'
  by_cases hbig : 1048576 < len
  · clear h hl
    go_enter Try.func12, Try.ntmps12
    go_wp2
    go_ret
    exact ⟨rfl, Below.refl _ _⟩
  · go_enter Try.func12, Try.ntmps12
    go_wp2_with fail
    refine (dDrawSwingsOf sa len cap w h hl).mono ?_
    rintro e w1 ⟨sb, cb, l, need, rfl, hR, l1, l2, hx, n1, n2, E1⟩
    have HL := hide hR.lst
    have X1 := Box.new w1 #[.slice sb l.length cb, .int .i64 need] 28
    have EA := (Ext.refl w1).alloc (.cells #[.slice sb l.length cb, .int .i64 need] 28)
    obtain ⟨c0, c1, _, _⟩ := X1.two
    clear h hl hl' hbig
    clear hR hx
    have hvl := swL_len l need
    have HMo := hide fun h i k hi hk hw => @mono_sw l need i k h hi hk hw
    have HDu := hide fun h => @sw_dual l need h
    have HLn := hide fun h => @swL_len2 l need h
    have HL0 := hide (show ¬ Go.Proofs.Ytjdfdikifiljjab.sb l need = true → (swL l need).length ≤ 0 from fun h => by unfold swL; rw [if_neg h]; simp)
    go_wp2_with fail; refine (implSwings sb cb l need _ (HL.out.ext EA) (by omega)).mono ?_; rintro e w2 ⟨s2, c2, rfl, R2, hb2⟩
    have E2 := Ext.of hb2
    clear c0 c1 hb2
    obtain ⟨c0, c1, _, _⟩ := (X1.keep E2).two
    have CS := hide fun w h => specSwings sb cb l need w h (by omega)
    go_wp2_with fail; refine (CS.out _ (HL.out.ext (EA.trans E2))).mono ?_; rintro e w3 ⟨s3, c3, rfl, R3, hb3⟩
    have E3 := Ext.of hb3
    have HV := hide (R2.lst.ext E3)
    obtain ⟨V, hV⟩ : ∃ V, V = swL l need := ⟨_, rfl⟩; rw [← hV] at HV R3 CS hvl HMo HDu HLn HL0  ⊢
    clear c0 c1 hb3 hV
    have X3 := X1.keep (E2.trans E3)
    have E13 := EA.trans (E2.trans E3)
    obtain ⟨c0, c1, _, _⟩ := X3.two
    go_wp2_with fail; refine (eqInts_same s2 s3 c2 c3 V.length V _ HV.out R3.lst rfl (by omega)).mono ?_; rintro e w4 ⟨rfl, E4⟩
    clear c0 c1
    have X4 := X3.keep E4
    have E14 := E13.trans E4
    have HV4 := hide (HV.out.ext E4)
    by_cases hs : Go.Proofs.Ytjdfdikifiljjab.sb l need = true
    · obtain ⟨hv, h8⟩ := sb_iff.1 hs
      have hle1 : l.length ≤ V.length := Nat.le_of_eq (HLn.out hs).symm
      have hle2 : V.length ≤ l.length := Nat.le_of_eq (HLn.out hs)
      have hv0 : ((V.length : Int) == 0) = false := by rw [beq_eq_false_iff_ne]; omega
      have HM2 := hide fun i k hi hk hw => HMo.out hs i k hi hk hw
      have HD2 := hide (HDu.out hs)
      obtain ⟨dn, hdn⟩ : ∃ dn, dn = tot l - need + 1 := ⟨_, rfl⟩
      rw [← hdn] at HD2
      have Hdn := hide hdn
      clear hs hdn HMo HDu HLn HL0
      go_wp2
      go_loopw [5] (fun i wr => ∃ k : Nat, k ≤ V.length ∧ i = .int .i64 k ∧ Ext w4 wr) (fun i _ => V.length - (intOf i).toNat)
      case atStart => exact ⟨0, Nat.zero_le _, rfl, Ext.refl _⟩
      case round =>
        obtain ⟨i, hi, rfl, hE⟩ := hrel
        by_cases hlt : i < V.length
        · have hE0 := hE
          go_wp2
          go_loopw [6] (fun j wx => ∃ q : Nat, q ≤ V.length ∧ j = .int .i64 q ∧ Ext w4 wx) (fun j _ => V.length - (intOf j).toNat)
          case atStart => exact ⟨0, Nat.zero_le _, rfl, hE⟩
          case round =>
            clear hE hE0
            obtain ⟨k, hk, rfl, hE⟩ := hrel
            by_cases hlq : k < V.length
            · have EX := E14.trans hE
              have XR := X4.keep hE
              obtain ⟨r0, r1⟩ := XR.reads (Ext.refl wr)
              obtain ⟨gl, ol, rfl, hgl, e1⟩ := (HL.out.ext EX).at (k := i) (by omega)
              obtain ⟨gl2, ol2, e9, hgl2, e2⟩ := (HL.out.ext EX).at (k := k) (by omega)
              cases e9
              obtain ⟨gv, ov, rfl, hgv, e3⟩ := (HV4.out.ext hE).at hlt
              obtain ⟨gv2, ov2, e9, hgv2, e4⟩ := (HV4.out.ext hE).at hlq
              cases e9
              have hm := HM2.out i k (by omega) (by omega)
              obtain ⟨xw, hxw⟩ : ∃ xw, xw = l.getD i 0 := ⟨_, rfl⟩; rw [← hxw] at e1 hm
              obtain ⟨yw, hyw⟩ : ∃ yw, yw = l.getD k 0 := ⟨_, rfl⟩; rw [← hyw] at e2 hm
              obtain ⟨xo, hxo⟩ : ∃ xo, xo = V.getD i 0 := ⟨_, rfl⟩; rw [← hxo] at e3 hm
              obtain ⟨yo, hyo⟩ : ∃ yo, yo = V.getD k 0 := ⟨_, rfl⟩; rw [← hyo] at e4 hm
              have q1 := cell_regrown e1
              have q2 := cell_regrown e2
              have q3 := cell_regrown e3
              have q4 := cell_regrown e4
              have z1 : (i : Int) < (l.length : Int) := by omega
              have z2 : (k : Int) < (l.length : Int) := by omega
              have z3 : (i : Int) < (V.length : Int) := by omega
              have z4 : (k : Int) < (V.length : Int) := by omega
              have z5 : i < l.length := by omega
              have z6 : k < l.length := by omega
              clear hxw hyw hxo hyo e1 e2 e3 e4
              by_cases hw : yw ≤ xw
              · have t1 : decide (yw ≤ xw) = true := decide_eq_true hw
                have t2 : decide (xo < yo) = false := decide_eq_false (by have := hm hw; omega)
                clear hw hm
                go_wp2
                refine wp_region_quiet_below (by kernel_rfl) (by kernel_rfl) ?_
                repeat (go_big_quiet_step (fail))
                refine wpQuiet_nil ?_; intro w9 hq; have E9 := Ext.class hq; clear hq
                go_wp2
                go_roundw
                case rel => exact ⟨k + 1, by omega, by go_num, hE.trans E9⟩
                case measure => simp [intOf]; omega
              · have t1 : decide (yw ≤ xw) = false := decide_eq_false hw
                clear hw hm
                go_wp2
                refine wp_region_quiet_below (by kernel_rfl) (by kernel_rfl) ?_
                repeat (go_big_quiet_step (fail))
                refine wpQuiet_nil ?_; intro w9 hq; have E9 := Ext.class hq; clear hq
                go_wp2
                go_roundw
                case rel => exact ⟨k + 1, by omega, by go_num, hE.trans E9⟩
                case measure => simp [intOf]; omega
            · obtain rfl : k = V.length := by omega
              go_wp2
              go_roundw
              case rel => exact ⟨i + 1, by omega, by go_num, hE⟩
              case measure => simp [intOf]; omega
        · obtain rfl : i = V.length := by omega
          have EX := E14.trans hE
          have XR := X4.keep hE
          obtain ⟨c0, c1, _, _⟩ := XR.two
          go_wp2_with fail; refine (implDualY sb cb l need dn _ (HL.out.ext EX) (by omega) hv Hdn.out).mono ?_; rintro e w6 ⟨s6, c6, rfl, R6, E6⟩
          have C7 := implSwings s6 c6 l dn _ R6.lst (by omega)
          rw [HD2.out] at C7
          go_wp2_with fail; refine (C7).mono ?_; rintro e w7 ⟨s7, c7, rfl, R7, hb7⟩
          have E7 := Ext.of hb7
          go_wp2_with fail; refine (eqInts_same s7 s2 c7 c2 V.length V _ R7.lst (HV4.out.ext (hE.trans (E6.trans E7))) rfl (by omega)).mono ?_; rintro e w8 ⟨rfl, E8⟩
          go_wp2
          go_ret
          exact ⟨rfl, E1.trans (EX.trans ((E6.trans E7).trans E8))⟩
    · have hv0 : ((V.length : Int) == 0) = true := by rw [beq_iff_eq]; have := HL0.out hs; omega
      clear hs HMo HDu HLn HL0
      obtain ⟨c0, c1, _, _⟩ := X4.two
      go_wp2_with fail; refine (CS.out _ (HL.out.ext E14)).mono ?_; rintro e w6 ⟨s6, c6, rfl, R6, hb6⟩
      have E6 := Ext.of hb6
      go_wp2_with fail; refine (eqInts_same s2 s6 c2 c6 V.length V _ (HV4.out.ext E6) R6.lst rfl (by omega)).mono ?_; rintro e w7 ⟨rfl, E7⟩
      go_wp2
      go_ret
      exact ⟨rfl, E1.trans (E14.trans (E6.trans E7))⟩
end Go.Proofs.Ytjdfdikifiljjab
