/- Chapter 2: the walks of the laws of ballots, at drawn arguments. -/
import Derived.Test.YtjdfdikifiljjaaLawsV
import Derived.Test.YtjdfdikifiljjaaDrawF
import Derived.Test.YtjdfdikifiljjaaDrawG
namespace Go.Proofs.Ytjdfdikifiljjaa
open Go.ChangeShapes Go.WideShapes Go.ChangeAt Go.RowKit Go.Joins Go.Sort
set_option linter.unusedVariables false

def cumT (l bs : List Int) : Nat → Int
  | 0 => 0
  | k + 1 => cumT l bs k + tly l bs (k : Int)
theorem cumT_all {l : List Int} {need : Int} {bs : List Int} (h : vbal l need bs = true) : cumT l bs 4 = tot l := by
  have := tly_sum h
  show 0 + tly l bs ((0 : Nat) : Int) + tly l bs ((1 : Nat) : Int) + tly l bs ((2 : Nat) : Int) + tly l bs ((3 : Nat) : Int) = tot l
  rw [← this]
  show 0 + tly l bs 0 + tly l bs 1 + tly l bs 2 + tly l bs 3 = _
  omega
theorem cumT_bd {l : List Int} {need : Int} {bs : List Int} {k : Nat} (h : vbal l need bs = true) (hk : k ≤ 4) : 0 ≤ cumT l bs k ∧ cumT l bs k ≤ tot l := by
  have h4 := cumT_all h
  have s0 : cumT l bs 1 = cumT l bs 0 + tly l bs ((0 : Nat) : Int) := rfl
  have s1 : cumT l bs 2 = cumT l bs 1 + tly l bs ((1 : Nat) : Int) := rfl
  have s2 : cumT l bs 3 = cumT l bs 2 + tly l bs ((2 : Nat) : Int) := rfl
  have s3 : cumT l bs 4 = cumT l bs 3 + tly l bs ((3 : Nat) : Int) := rfl
  have z : cumT l bs 0 = 0 := rfl
  have a := (tly_le h ((0 : Nat) : Int) (by omega)).1
  have b := (tly_le h ((1 : Nat) : Int) (by omega)).1
  have c := (tly_le h ((2 : Nat) : Int) (by omega)).1
  have d := (tly_le h ((3 : Nat) : Int) (by omega)).1
  have e : k = 0 ∨ k = 1 ∨ k = 2 ∨ k = 3 ∨ k = 4 := by omega
  rcases e with rfl | rfl | rfl | rfl | rfl <;> omega

set_option maxRecDepth 100000 in
set_option maxHeartbeats 1000000 in
theorem walkFnTallyOf (w : World) (sa : Option Addr) (len cap : Nat) (h : Code w sa len cap) (hl : len ≤ maxLen) :
    Calls Try.prog 12 #[.slice sa len cap] w fun e w' => e = .returned (.bool true) ∧ Below w.heap.size w w' := by
  have hl' := hl
  unfold maxLen at hl'
  by_cases hbig : 1048576 < len
  · clear h hl
    go_enter Try.func12, Try.ntmps12
    go_wp2
    go_ret
    exact ⟨rfl, Below.refl _ _⟩
  · go_enter Try.func12, Try.ntmps12
    go_wp2_with fail
    refine (dDrawTallyOf sa len cap w h hl).mono ?_
    rintro e w1 ⟨sb, cb, l, need, sm, cm, m, kd, rfl, hR, l1, l2, hx, n1, n2, hM, hml, q0, q1, E1⟩
    have HL := hide hR.lst
    have X1 := Box.new w1 #[.slice sb l.length cb, .int .i64 need] 27
    have EA := (Ext.refl w1).alloc (.cells #[.slice sb l.length cb, .int .i64 need] 27)
    obtain ⟨c0, c1, _, _⟩ := X1.two
    clear h hl hl' hbig
    have HM := hide hM.lst
    clear hR hM hx
    have HT := hide (tlyR_no (l := l) (need := need) (bs := m) (kind := kd))
    have hne : (tlyR l need m kd != tlyR l need m kd) = false := by simp
    have heq : (tlyR l need m kd == tlyR l need m kd) = true := by simp
    go_wp2_with fail; refine (implTallyOf _ _ l need _ _ m kd _ (HL.out.ext EA) (by omega) (HM.out.ext EA) (by omega)).mono ?_; rintro e w2 ⟨rfl, E2⟩
    clear c0 c1
    obtain ⟨c0, c1, _, _⟩ := (X1.keep E2).two
    go_wp2_with fail; refine (specTallyOf _ _ l need _ _ m kd _ (HL.out.ext (EA.trans E2)) (by omega) (HM.out.ext (EA.trans E2)) (by omega)).mono ?_; rintro e w3 ⟨rfl, E3⟩
    clear c0 c1
    have X3 := X1.keep (E2.trans E3)
    have E13 := EA.trans (E2.trans E3)
    by_cases hv : vbal l need m = true ∧ inr kd 0 3 = true
    · have HV := hide hv.1
      have hk := inr_iff.1 hv.2
      have hb := tly_le hv.1 kd (by omega)
      have hyes := tlyR_yes hv.1 hv.2
      have hR := hide fun k (hk : 0 ≤ k ∧ k ≤ 3) => tlyR_yes hv.1 (inr_iff.2 hk)
      have hall := hide fun k hk => tly_le hv.1 k hk
      have HC4 := hide (cumT_all hv.1)
      have HCB := hide (fun k hk => cumT_bd (k := k) hv.1 hk)
      have hxx := hide (vb_iff.1 (vbal_iff.1 hv.1).1).2.2.1
      have htb := tot_bd l 100 hxx.out
      obtain ⟨z, hz⟩ : ∃ z, z = tlyR l need m kd := ⟨_, rfl⟩
      rw [← hz] at hne heq hyes ⊢
      have hz0 : decide (z < 0) = false := decide_eq_false (by omega)
      have HZ := hide (show z ≤ tot l by omega)
      clear hv hyes hz hb hk HT
      go_wp2
      go_loopw [7, 8] (fun a i wr => ∃ (k : Nat) (s : Int), k ≤ 4 ∧ i = .int .i64 k ∧ a = .int .i64 s ∧ Hid (s = cumT l m k) ∧ 0 ≤ s ∧ s ≤ 5000 ∧ Ext w3 wr) (fun _ i _ => 4 - (intOf i).toNat)
      case atStart => exact ⟨0, 0, by omega, rfl, rfl, rfl, by omega, by omega, Ext.refl _⟩
      case round =>
        obtain ⟨k, s, hk, rfl, rfl, HS, s0, s1, hE⟩ := hrel
        by_cases hlt : k ≤ 3
        · obtain ⟨c0, c1, _, _⟩ := (X3.keep hE).two
          have hq := hall.out (k : Int) (by omega)
          have HS2 := hide (show s + tly l m (k : Int) = cumT l m (k + 1) by rw [HS.out]; rfl)
          have HB := hide (show 0 ≤ s + tly l m (k : Int) ∧ s + tly l m (k : Int) ≤ 5000 by
            have := HCB.out (k + 1) (by omega)
            rw [HS2.out]; omega)
          have C := implTallyOf sb cb l need sm cm m (k : Int) wr (HL.out.ext (E13.trans hE)) (by omega) (HM.out.ext (E13.trans hE)) (by omega)
          rw [hR.out (k : Int) (by omega)] at C
          obtain ⟨q, hqq⟩ : ∃ q, q = tly l m (k : Int) := ⟨_, rfl⟩; rw [← hqq] at hq HS2 HB C
          clear hqq
          have hle : decide ((k : Int) ≤ 3) = true := decide_eq_true (by omega)
          go_wp2_with fail; refine (C).mono ?_; rintro e w6 ⟨rfl, E6⟩
          go_wp2
          go_roundw
          case rel => exact ⟨k + 1, s + q, by omega, by go_num, by go_num, HS2, HB.out.1, HB.out.2, hE.trans E6⟩
          case measure => simp [intOf]; omega
        · obtain rfl : k = 4 := by omega
          have HF := hide (show s = tot l by rw [HS.out]; exact HC4.out)
          obtain ⟨c0, c1, _, _⟩ := (X3.keep hE).two
          have ht : (tot l == tot l) = true := by simp
          have hle2 : decide (z ≤ tot l) = true := decide_eq_true HZ.out
          rw [HF.out]
          go_wp2_with fail; refine (lawTotal _ _ _ l _ (HL.out.ext (E13.trans hE)) rfl (by omega) (fun x hx => ⟨(hxx.out x hx).1, by have := (hxx.out x hx).2; omega⟩)).mono ?_; rintro e w' ⟨rfl, rfl⟩
          go_wp2
          go_ret
          exact ⟨rfl, E1.trans (E13.trans hE)⟩
    · have hno := HT.out hv
      clear hv HT
      obtain ⟨c0, c1, _, _⟩ := X3.two
      have C := specTallyOf sb cb l need sm cm m kd w3 (HL.out.ext E13) (by omega) (HM.out.ext E13) (by omega)
      rw [hno] at hne heq C ⊢
      go_wp2_with fail; refine (C).mono ?_; rintro e w5 ⟨rfl, E5⟩
      go_wp2
      go_ret
      exact ⟨rfl, E1.trans (E13.trans E5)⟩

set_option maxRecDepth 100000 in
set_option maxHeartbeats 1000000 in
theorem walkFnPassesWins (w : World) (sa : Option Addr) (len cap : Nat) (h : Code w sa len cap) (hl : len ≤ maxLen) :
    Calls Try.prog 14 #[.slice sa len cap] w fun e w' => e = .returned (.bool true) ∧ Below w.heap.size w w' := by
  have hl' := hl
  unfold maxLen at hl'
  by_cases hbig : 1048576 < len
  · clear h hl
    go_enter Try.func14, Try.ntmps14
    go_wp2
    go_ret
    exact ⟨rfl, Below.refl _ _⟩
  · go_enter Try.func14, Try.ntmps14
    go_wp2_with fail
    refine (dDrawPasses sa len cap w h hl).mono ?_
    rintro e w1 ⟨sb, cb, l, need, sm, cm, m, q, s, rfl, hR, l1, l2, hx, n1, n2, hM, hml, q0, q1, E1⟩
    have HL := hide hR.lst
    have X1 := Box.new w1 #[.slice sb l.length cb, .int .i64 need] 27
    have EA := (Ext.refl w1).alloc (.cells #[.slice sb l.length cb, .int .i64 need] 27)
    obtain ⟨c0, c1, _, _⟩ := X1.two
    clear h hl hl' hbig
    have HM := hide hM.lst
    clear hR hM hx
    have HT := hide (tlyR_no (l := l) (need := need) (bs := m) (kind := 1))
    have HI := hide (passB_iff (l := l) (m := m) (need := need) (q := q) (s := s)).1
    have hneP : (passB l need m q s != passB l need m q s) = false := by simp
    have heqP : (passB l need m q s == passB l need m q s) = true := by simp
    go_wp2_with fail; refine (implPasses _ _ l need _ _ m q s _ (HL.out.ext EA) (by omega) (HM.out.ext EA) (by omega)).mono ?_; rintro e w2 ⟨rfl, E2⟩
    clear c0 c1
    obtain ⟨c0, c1, _, _⟩ := (X1.keep E2).two
    have CS := hide fun w h1 h2 => specPasses sb cb l need sm cm m q s w h1 (by omega) h2 (by omega)
    go_wp2_with fail; refine (CS.out _ (HL.out.ext (EA.trans E2)) (HM.out.ext (EA.trans E2))).mono ?_; rintro e w3 ⟨rfl, E3⟩
    clear c0 c1
    obtain ⟨P, hP⟩ : ∃ P, P = passB l need m q s := ⟨_, rfl⟩
    rw [← hP] at hneP heqP HI CS ⊢
    have X3 := X1.keep (E2.trans E3)
    have E13 := EA.trans (E2.trans E3)
    obtain ⟨c0, c1, _, _⟩ := X3.two
    clear hP
    by_cases hv : vbal l need m = true
    · have hT := tlyR_yes (kind := 1) hv (by decide)
      have hT0 := tlyR_yes (kind := 0) hv (by decide)
      have hb1 := tly_le hv 1 (by omega)
      have hb0 := tly_le hv 0 (by omega)
      have HW := hide (wins_yes hv)
      have hxx := hide (vb_iff.1 (vbal_iff.1 hv).1).2.2.1
      have htb := tot_bd l 100 hxx.out
      have C := implTallyOf sb cb l need sm cm m 1 w3 (HL.out.ext E13) (by omega) (HM.out.ext E13) (by omega)
      rw [hT] at C
      have hd1 : decide (tly l m 1 < 0) = false := decide_eq_false (by omega)
      obtain ⟨y, hy⟩ : ∃ y, y = tly l m 1 := ⟨_, rfl⟩; rw [← hy] at C hd1
      clear hy hb1
      go_wp2_with fail; refine (C).mono ?_; rintro e w4 ⟨rfl, E4⟩
      have E14 := E13.trans E4
      have X4 := X3.keep E4
      clear c0 c1
      go_wp2
      go_loopw [8, 9] (fun v i wr => ∃ (c : Nat) (s2 : Option Addr) (c2 : Nat) (o : List Int), c ≤ m.length ∧ i = .int .i64 c ∧ v = .slice s2 o.length c2 ∧ Hid (o = yesL m c) ∧ Row w4.heap.size wr s2 c2 o ∧ Ext w4 wr) (fun _ i _ => m.length - (intOf i).toNat)
      case atStart => exact ⟨0, _, 0, [], Nat.zero_le _, rfl, rfl, rfl, Row.made _ _ (Nat.le_refl _), (Ext.refl _).alloc _⟩
      case round =>
        obtain ⟨c, s2, c2, o, hc, rfl, rfl, HO, hr, hE⟩ := hrel
        have ho : o.length ≤ c := by rw [HO.out]; exact filK_len _ _
        by_cases hlt : c < m.length
        · obtain ⟨g, off, rfl, hg, e3⟩ := (HM.out.ext (E14.trans hE)).at hlt
          by_cases hm1 : m.getD c 0 = 1
          · have HS := hide (show o ++ [(c : Int)] = yesL m (c + 1) by rw [HO.out]; exact filK_yes (decide_eq_true hm1))
            rw [hm1] at e3
            clear hm1
            go_wp2_with (first | (at_builtin; refine append_int rfl _ _ rfl w4.heap.size wr s2 c2 o (c : Int) _ rfl rfl hr (by omega) hE.size ?_; intro g3 cap3 w5 R3 hb3))
            have E3 := Ext.of (Below.trans hE hb3)
            clear hb3
            go_wp2
            go_roundw
            case rel => exact ⟨c + 1, _, _, _, by omega, by go_num, by rw [len_snocB o (c : Int)], HS, R3, E3⟩
            case measure => simp [intOf]; omega
          · have HS := hide (show o = yesL m (c + 1) by rw [HO.out]; exact filK_no (decide_eq_false hm1))
            obtain ⟨z, hz⟩ : ∃ z, z = m.getD c 0 := ⟨_, rfl⟩; rw [← hz] at e3 hm1
            have hd : (z == 1) = false := by rw [beq_eq_false_iff_ne]; exact hm1
            clear hz hm1
            go_wp2
            go_roundw
            case rel => exact ⟨c + 1, _, _, _, by omega, by go_num, rfl, HS, hr, hE⟩
            case measure => simp [intOf]; omega
        · obtain rfl : c = m.length := by omega
          have hW : winsB l need o = passB l need m 0 false := by rw [HO.out]; exact HW.out
          have H9 := hide (HL.out.ext (E14.trans hE))
          have M9 := hide (HM.out.ext (E14.trans hE))
          have Y9 := hide hr.lst
          obtain ⟨r0, r1⟩ := X4.reads hE
          have hcap := hr.cap
          have C1 := hide fun d os => implPasses sb cb l need sm cm m 0 false (grow (redrawn wr d) os) (H9.out.ext (below_regrown _ _ _)) (by omega) (M9.out.ext (below_regrown _ _ _)) (by omega)
          have C2 := hide fun d os => implWins sb cb l need s2 c2 o (grow (redrawn wr d) os) (H9.out.ext (below_regrown _ _ _)) (by omega) (Y9.out.ext (below_regrown _ _ _)) (by omega) hcap
          have C3 := hide fun d os => implTallyOf sb cb l need sm cm m 0 (grow (redrawn wr d) os) (H9.out.ext (below_regrown _ _ _)) (by omega) (M9.out.ext (below_regrown _ _ _)) (by omega)
          rw [hT0] at C3
          rw [hW] at C2
          have hQQ : (passB l need m 0 false == passB l need m 0 false) = true := by simp
          obtain ⟨Q, hQ⟩ : ∃ Q, Q = passB l need m 0 false := ⟨_, rfl⟩; rw [← hQ] at C1 C2 hQQ
          clear hQ hW hT0
          cases P with
          | false =>
            go_wp2
            refine wp_region_quiet_below (by kernel_rfl) (by kernel_rfl) ?_
            repeat (go_big_quiet_step ((first | (go_at_call 35; exact Ret.quiet (C1.out _ _)) | (go_at_call 24; exact Ret.quiet (C2.out _ _)))))
            refine wpQuiet_nil ?_; intro w9 hq; have E9 := Ext.class hq; clear hq
            go_wp2
            go_ret
            exact ⟨rfl, E1.trans ((E14.trans hE).trans E9)⟩
          | true =>
            have hpi := (HI.out rfl).2.1
            obtain ⟨z, hz⟩ : ∃ z, z = tly l m 0 := ⟨_, rfl⟩; rw [← hz] at hpi C3 hb0
            obtain ⟨t, ht⟩ : ∃ t, t = tot l := ⟨_, rfl⟩; rw [← ht] at hpi hb0 htb
            have hw : IntKind.i64.wrap (t - z) = t - z := IntWalk.i64_in _ (by omega)
            have hle : decide (q ≤ t - z) = true := decide_eq_true hpi
            have C4 := hide fun d os => lawTotal sb cb l.length l (grow (redrawn wr d) os) (H9.out.ext (below_regrown _ _ _)) rfl (by omega) (fun x hx => ⟨(hxx.out x hx).1, by have := (hxx.out x hx).2; omega⟩)
            rw [← ht] at C4
            clear hz ht hpi
            go_wp2
            refine wp_region_quiet_below (by kernel_rfl) (by kernel_rfl) ?_
            repeat (go_big_quiet_step ((first | (go_at_call 35; exact Ret.quiet (C1.out _ _)) | (go_at_call 24; exact Ret.quiet (C2.out _ _)) | (go_at_call 39; exact Same.quiet (C4.out _ _)) | (go_at_call 33; exact Ret.quiet (C3.out _ _)))))
            refine wpQuiet_nil ?_; intro w9 hq; have E9 := Ext.class hq; clear hq
            go_wp2
            go_ret
            exact ⟨rfl, E1.trans ((E14.trans hE).trans E9)⟩
    · have hno := HT.out fun h => hv h.1
      clear hv HT
      have C := implTallyOf sb cb l need sm cm m 1 w3 (HL.out.ext E13) (by omega) (HM.out.ext E13) (by omega)
      rw [hno] at C
      go_wp2_with fail; refine (C).mono ?_; rintro e w4 ⟨rfl, E4⟩
      clear c0 c1
      obtain ⟨c0, c1, _, _⟩ := (X3.keep E4).two
      go_wp2_with fail; refine (CS.out _ (HL.out.ext (E13.trans E4)) (HM.out.ext (E13.trans E4))).mono ?_; rintro e w5 ⟨rfl, E5⟩
      go_wp2
      go_ret
      exact ⟨rfl, E1.trans ((E13.trans E4).trans E5)⟩
end Go.Proofs.Ytjdfdikifiljjaa
