/- Chapter 2: how often each member decides: contracts. -/
import Derived.Test.YtjdfdikifiljjabSets2
import Derived.Test.YtjdfdikifiljjabApp
namespace Go.Proofs.Ytjdfdikifiljjab
open Go.ChangeShapes Go.WideShapes Go.ChangeAt Go.RowKit Go.Joins Go.Sort
set_option linter.unusedVariables false

def swF (l : List Int) (need : Int) (s j : Nat) : Int := if dec l need s j then 1 else 0
theorem swF_bd (l : List Int) (need : Int) (s j : Nat) : 0 ≤ swF l need s j ∧ swF l need s j ≤ 1 := by unfold swF; split <;> omega
theorem swF_yes {l : List Int} {need : Int} {s j : Nat} (h : dec l need s j = true) : swF l need s j = 1 := if_pos h
theorem swF_no {l : List Int} {need : Int} {s j : Nat} (h : dec l need s j = false) : swF l need s j = 0 := if_neg (by rw [h]; simp)
def swL (l : List Int) (need : Int) : List Int := if sb l need = true then accL (swF l need) l.length (2 ^ l.length) else []
theorem swL_len (l : List Int) (need : Int) : (swL l need).length ≤ l.length := by
  unfold swL; split
  · rw [accL_len]; omega
  · simp
theorem accL_zero (f : Nat → Nat → Int) (n : Nat) : accL f n 0 = zeros n :=
  getD_ext (by rw [zeros_len, accL_len]) (fun j hj => by rw [zeros_at, accL_at _ _ _ _ (by rwa [accL_len] at hj)]; rfl)
/-- s with i -/
def plus (s i : Nat) : Nat := s + 2 ^ i
theorem wrap_plus {s i : Nat} (hs : s ≤ 1000) (hi : i ≤ 12) : IntKind.i64.wrap ((s : Int) + (pw i : Int)) = (plus s i : Int) := by
  have h : pw i ≤ 4096 := pow12 hi
  have e : (plus s i : Int) = (s : Int) + (pw i : Int) := by unfold plus pw; rw [Int.natCast_add]
  rw [e]
  exact IntWalk.i64_in _ (by omega)

set_option maxHeartbeats 1000000 in
theorem implDecides (sa : Option Addr) (cap : Nat) (l : List Int) (need : Int) (s i : Nat) (w : World) (h : Lst w sa l) (hl : l.length ≤ 12) (hx : ∀ x ∈ l, 0 ≤ x ∧ x ≤ 100) (hn0 : 0 ≤ need) (hn1 : need ≤ 2000) (hs : s ≤ 1000) (hi : i < l.length) :
    Calls Try.prog 70 #[.agg #[.slice sa l.length cap, .int .i64 need], .int .i64 s, .int .i64 i] w (Ret (.bool (dec l need s i)) w) := by
  have H := hide (h.ext ((Ext.refl w).alloc (.cells #[.slice sa l.length cap, .int .i64 need] 28)))
  have X0 := (Box.new w #[.slice sa l.length cap, .int .i64 need] 28)
  clear h
  obtain ⟨r0, r1⟩ := X0.reads (Ext.refl _)
  have hb := wt_bd l s hx
  have HX := hide hx; clear hx
  have HD := hide (dec_iff l need s i hi)
  have hw : IntKind.i64.wrap (need - wt l s) = need - wt l s := IntWalk.i64_in _ (by omega)
  go_enter Try.func70, Try.ntmps70
  go_wp2
  refine wp_region_quiet_below (by kernel_rfl) (by kernel_rfl) ?_
  repeat (go_big_quiet_step ((first | (go_at_call 79; exact Ret.quiet (implVotes _ _ l need s _ (H.out.ext (below_regrown _ _ _)) hl HX.out (by omega))))))
  refine wpQuiet_nil ?_; intro w1 hq; have E1 := Ext.class hq; clear hq
  clear hw r0 r1
  obtain ⟨c0, c1, _, _⟩ := (X0.keep E1).two
  have EA := ((Ext.refl w).alloc _).trans E1
  go_wp2_with fail; refine (implHas s i _ (by omega) (by omega)).mono ?_; rintro e w' ⟨rfl, rfl⟩
  by_cases hbit : s.testBit i = true
  · go_wp2
    go_ret
    exact Ret.bool (by rw [HD.out, hbit]; rfl) EA
  · rw [Bool.not_eq_true] at hbit
    by_cases hla : 0 < need - wt l s
    · have hd : decide (0 < need - wt l s) = true := decide_eq_true hla
      obtain ⟨g, off, rfl, hg, c2⟩ := (H.out.ext E1).at hi
      obtain ⟨x, hx2⟩ : ∃ x, x = l.getD i 0 := ⟨_, rfl⟩; rw [← hx2] at c2 HD
      clear hx2
      go_wp2
      go_ret
      exact Ret.bool (by rw [HD.out, hbit, hd]; rfl) EA
    · have hd : decide (0 < need - wt l s) = false := decide_eq_false hla
      go_wp2
      go_ret
      exact Ret.bool (by rw [HD.out, hbit, hd]; rfl) EA
set_option maxHeartbeats 2000000 in
theorem implSwings (sa : Option Addr) (cap : Nat) (l : List Int) (need : Int) (w : World) (h : Lst w sa l) (hl : l.length ≤ 2000000) :
    Calls Try.prog 27 #[.agg #[.slice sa l.length cap, .int .i64 need]] w (RetList (swL l need) w) := by
  have H := hide (h.ext ((Ext.refl w).alloc (.cells #[.slice sa l.length cap, .int .i64 need] 28)))
  have X0 := (Box.new w #[.slice sa l.length cap, .int .i64 need] 28)
  clear h
  by_cases hv : sb l need = true
  · have HF := hide (show swL l need = accL (swF l need) l.length (2 ^ l.length) from if_pos hv)
    obtain ⟨v1, hl8⟩ := sb_iff.1 hv
    obtain ⟨_, _, hx, hn0, hnt⟩ := vb_iff.1 v1
    have hbt := tot_bd l 100 hx
    have HX := hide hx; clear hx
    have hp8 := pow8 hl8
    have hpb := pow_bd (m := l.length) (by omega)
    clear v1
    go_enter Try.func27, Try.ntmps27
    go_wp2_with fail; refine (Ret.eqB (implSmall _ _ l need _ H.out hl) hv).mono ?_; rintro e w1 ⟨rfl, E1⟩
    have X1 := X0.keep E1
    have H1 := hide (H.out.ext E1)
    have EA := ((Ext.refl w).alloc (.cells #[.slice sa l.length cap, .int .i64 need] 28)).trans E1
    obtain ⟨c0, c1, _, _⟩ := X1.two
    have hmk := run_makeInts l.length hl
    go_wp2
    clear hmk c0 c1 X0 H E1
    go_loopw [4] (fun u wr => ∃ S : Nat, S ≤ 2 ^ l.length ∧ u = .int .i64 S ∧ Arr wr w1.heap.size (accL (swF l need) l.length S) ∧ Ext w1 wr) (fun u _ => 2 ^ l.length - (intOf u).toNat)
    case atStart => exact ⟨0, Nat.zero_le _, rfl, by rw [accL_zero]; exact Arr.new w1 _, (Ext.refl _).alloc _⟩
    case round =>
      obtain ⟨S, hS, rfl, hA, hE⟩ := hrel
      obtain ⟨c0, c1, _, _⟩ := (X1.keep hE).two
      by_cases hlt : S < 2 ^ l.length
      · have d1 : decide ((S : Int) < 2 ^ l.length) = true := decide_eq_true (by rw [← pow_cast]; omega)
        rw [← accM_zero] at hA
        go_wp2
        obtain ⟨wo, rfl⟩ : ∃ wo : World, wo = wr := ⟨_, rfl⟩
        clear c0 c1
        go_loopw [24] (fun u wr => ∃ i : Nat, i ≤ l.length ∧ u = .int .i64 i ∧ Arr wr w1.heap.size (accM (swF l need) l.length S i) ∧ Ext w1 wr) (fun u _ => l.length - (intOf u).toNat)
        case atStart => exact ⟨0, Nat.zero_le _, rfl, hA, hE⟩
        case round =>
          clear hA hE
          obtain ⟨i, hi, rfl, hA, hE⟩ := hrel
          obtain ⟨c0, c1, _, _⟩ := (X1.keep hE).two
          by_cases hlt2 : i < l.length
          · go_wp2_with fail
            refine (implDecides _ _ l need S i _ (H1.out.ext hE) (by omega) HX.out (by omega) (by omega) (by omega) hlt2).mono ?_; rintro e w2 ⟨rfl, E2⟩
            have hA2 := hA.keep E2
            by_cases hd : dec l need S i = true
            · have HS := hide (accM_set (swF l need) l.length S i hlt2)
              rw [swF_yes hd] at HS
              have cv := hA2.cell (j := i) (by rw [accM_len]; exact hlt2)
              have fv := hA2.free i
              have hb := acc_bd (swF l need) 1 (swF_bd l need) i S
              rw [accM_at _ _ _ _ _ hlt2, if_neg (Nat.lt_irrefl i), Int.add_zero] at cv HS
              obtain ⟨x, hxx⟩ : ∃ x, x = acc (swF l need) i S := ⟨_, rfl⟩; rw [← hxx] at cv hb HS
              clear hxx
              go_wp2
              go_roundw
              case rel => exact ⟨i + 1, by omega, by go_num, by rw [← HS.out]; exact hA2.set i (x + 1), (hE.trans E2).setCell (Nat.le_refl _) _⟩
              case measure => simp [intOf]; omega
            · rw [Bool.not_eq_true] at hd
              have HS := hide (accM_same (swF l need) l.length S i (swF_no hd))
              go_wp2
              go_roundw
              case rel => exact ⟨i + 1, by omega, by go_num, by rw [← HS.out]; exact hA2, hE.trans E2⟩
              case measure => simp [intOf]; omega
          · obtain rfl : i = l.length := by omega
            rw [accM_full] at hA
            go_wp2
            go_roundw
            case rel => exact ⟨S + 1, by omega, by go_num, hA, hE⟩
            case measure => simp [intOf]; omega
      · obtain rfl : S = 2 ^ l.length := by omega
        have d1 : decide (((2 ^ l.length : Nat) : Int) < 2 ^ l.length) = false := decide_eq_false (by rw [← pow_cast]; omega)
        have HL := hide (show (swL l need).length = l.length by rw [HF.out, accL_len])
        go_wp2
        go_ret
        refine ⟨some ⟨w1.heap.size, 0, none⟩, l.length, by rw [HL.out]; rfl, ?_, EA.trans hE⟩
        rw [HF.out]
        have := hA.row (base := w.heap.size) EA.size (by rw [accL_len]; exact hl)
        rwa [accL_len] at this
  · have HF := hide (show swL l need = [] from if_neg hv)
    rw [Bool.not_eq_true] at hv
    go_enter Try.func27, Try.ntmps27
    go_wp2_with fail; refine (Ret.eqB (implSmall _ _ l need _ H.out hl) hv).mono ?_; rintro e w1 ⟨rfl, E1⟩
    go_wp2
    go_ret
    exact RetList.of (base := 0) HF.out (Row.nil _ _) (((Ext.refl w).alloc _).trans E1)
set_option maxHeartbeats 2000000 in
theorem specSw (sa : Option Addr) (cap : Nat) (l : List Int) (need : Int) (w : World) (h : Lst w sa l) (hv : sb l need = true) :
    Calls Try.prog 69 #[.agg #[.slice sa l.length cap, .int .i64 need]] w (RetList (swL l need) w) := by
  have H1 := hide (h.ext ((Ext.refl w).alloc (.cells #[.slice sa l.length cap, .int .i64 need] 28)))
  have X1 := (Box.new w #[.slice sa l.length cap, .int .i64 need] 28)
  have EA := (Ext.refl w).alloc (.cells #[.slice sa l.length cap, .int .i64 need] 28)
  clear h
  have HF := hide (show swL l need = accL (swF l need) l.length (2 ^ l.length) from if_pos hv)
  obtain ⟨v1, hl8⟩ := sb_iff.1 hv
  obtain ⟨_, _, hx, hn0, hnt⟩ := vb_iff.1 v1
  have hbt := tot_bd l 100 hx
  have HX := hide hx; clear hx
  have hp8 : pw l.length ≤ 256 := pow8 hl8
  clear v1 hv
  have hmk := run_makeInts l.length (by omega)
  obtain ⟨c0, c1, _, _⟩ := X1.two
  go_enter Try.func69, Try.ntmps69
  go_wp2
  clear hmk c0 c1
  go_loopw [4] (fun u wr => ∃ S : Nat, S ≤ pw l.length ∧ u = .int .i64 S ∧ Arr wr (w.heap.size + 1) (accL (swF l need) l.length S) ∧ Ext (w.alloc (.cells #[.slice sa l.length cap, .int .i64 need] 28)) wr) (fun u _ => pw l.length - (intOf u).toNat)
  case atStart => exact ⟨0, Nat.zero_le _, rfl, by rw [accL_zero]; exact Arr.newAt _ _ _ (by simp), (Ext.refl _).alloc _⟩
  case round =>
    obtain ⟨S, hS, rfl, hA, hE⟩ := hrel
    obtain ⟨c0, c1, _, _⟩ := (X1.keep hE).two
    go_wp2_with fail; refine (specPower l.length _ (by omega)).mono ?_; rintro e w' ⟨rfl, rfl⟩
    by_cases hlt : S < pw l.length
    · rw [← accM_zero] at hA
      go_wp2
      obtain ⟨wo, rfl⟩ : ∃ wo : World, wo = wr := ⟨_, rfl⟩
      clear c0 c1
      go_loopw [5] (fun u wr => ∃ i : Nat, i ≤ l.length ∧ u = .int .i64 i ∧ Arr wr (w.heap.size + 1) (accM (swF l need) l.length S i) ∧ Ext (w.alloc (.cells #[.slice sa l.length cap, .int .i64 need] 28)) wr) (fun u _ => l.length - (intOf u).toNat)
      case atStart => exact ⟨0, Nat.zero_le _, rfl, hA, hE⟩
      case round =>
        clear hA hE
        obtain ⟨i, hi, rfl, hA, hE⟩ := hrel
        obtain ⟨c0, c1, _, _⟩ := (X1.keep hE).two
        by_cases hlt2 : i < l.length
        · obtain ⟨r0, r1⟩ := X1.reads hE
          have hws := wrap_plus (s := S) (i := i) (by omega) (by omega)
          have hpi : plus S i ≤ 5000 := by unfold plus; have := pow12 (n := i) (by omega); omega
          by_cases hd : dec l need S i = true
          · have HS := hide (accM_set (swF l need) l.length S i hlt2)
            rw [swF_yes hd] at HS
            unfold dec at hd
            rw [Bool.and_eq_true, Bool.and_eq_true, Bool.not_eq_true', Bool.not_eq_true'] at hd
            obtain ⟨g1, g2, g3⟩ := hd
            have g3 : winB l need (plus S i) = true := g3
            go_wp2
            refine wp_region_quiet_below (by kernel_rfl) (by kernel_rfl) ?_
            repeat (go_big_quiet_step ((first | (go_at_call 98; exact Same.quiet (specHas S i _ (by omega) (by omega))) | (go_at_call 62; exact Same.quiet (specPower i _ (by omega))) | (go_at_call 83; exact Ret.quiet (specWin _ _ l need _ _ (H1.out.ext (hE.trans (below_regrown _ _ _))) (by omega) HX.out (by omega))))))
            refine wpQuiet_nil ?_; intro w2 hq; have E2 := Ext.class hq; clear hq
            clear r0 r1 hws c0 c1
            have hA2 := hA.keep E2
            have cv := hA2.cell (j := i) (by rw [accM_len]; exact hlt2)
            have fv := hA2.free i
            have hb := acc_bd (swF l need) 1 (swF_bd l need) i S
            rw [accM_at _ _ _ _ _ hlt2, if_neg (Nat.lt_irrefl i), Int.add_zero] at cv HS
            obtain ⟨x, hxx⟩ : ∃ x, x = acc (swF l need) i S := ⟨_, rfl⟩; rw [← hxx] at cv hb HS
            clear hxx
            go_wp2
            go_roundw
            case rel => exact ⟨i + 1, by omega, by go_num, by rw [← HS.out]; exact hA2.set i (x + 1), (hE.trans E2).setCell (by simp) _⟩
            case measure => simp [intOf]; omega
          · rw [Bool.not_eq_true] at hd
            have HS := hide (accM_same (swF l need) l.length S i (swF_no hd))
            unfold dec at hd
            by_cases g1 : S.testBit i = true
            · clear hd
              go_wp2
              refine wp_region_quiet_below (by kernel_rfl) (by kernel_rfl) ?_
              repeat (go_big_quiet_step ((first | (go_at_call 98; exact Same.quiet (specHas S i _ (by omega) (by omega))))))
              refine wpQuiet_nil ?_; intro w2 hq; have E2 := Ext.class hq; clear hq
              clear r0 r1 hws
              go_wp2
              go_roundw
              case rel => exact ⟨i + 1, by omega, by go_num, by rw [← HS.out]; exact hA.keep E2, hE.trans E2⟩
              case measure => simp [intOf]; omega
            · rw [Bool.not_eq_true] at g1
              rw [g1, Bool.not_false, Bool.true_and] at hd
              by_cases g2 : winB l need S = true
              · clear hd
                go_wp2
                refine wp_region_quiet_below (by kernel_rfl) (by kernel_rfl) ?_
                repeat (go_big_quiet_step ((first | (go_at_call 98; exact Same.quiet (specHas S i _ (by omega) (by omega))) | (go_at_call 83; exact Ret.quiet (specWin _ _ l need _ _ (H1.out.ext (hE.trans (below_regrown _ _ _))) (by omega) HX.out (by omega))))))
                refine wpQuiet_nil ?_; intro w2 hq; have E2 := Ext.class hq; clear hq
                clear r0 r1 hws
                go_wp2
                go_roundw
                case rel => exact ⟨i + 1, by omega, by go_num, by rw [← HS.out]; exact hA.keep E2, hE.trans E2⟩
                case measure => simp [intOf]; omega
              · rw [Bool.not_eq_true] at g2
                rw [g2, Bool.not_false, Bool.true_and] at hd
                have g3 : winB l need (plus S i) = false := hd
                clear hd
                go_wp2
                refine wp_region_quiet_below (by kernel_rfl) (by kernel_rfl) ?_
                repeat (go_big_quiet_step ((first | (go_at_call 98; exact Same.quiet (specHas S i _ (by omega) (by omega))) | (go_at_call 62; exact Same.quiet (specPower i _ (by omega))) | (go_at_call 83; exact Ret.quiet (specWin _ _ l need _ _ (H1.out.ext (hE.trans (below_regrown _ _ _))) (by omega) HX.out (by omega))))))
                refine wpQuiet_nil ?_; intro w2 hq; have E2 := Ext.class hq; clear hq
                clear r0 r1 hws
                go_wp2
                go_roundw
                case rel => exact ⟨i + 1, by omega, by go_num, by rw [← HS.out]; exact hA.keep E2, hE.trans E2⟩
                case measure => simp [intOf]; omega
        · obtain rfl : i = l.length := by omega
          rw [accM_full] at hA
          go_wp2
          go_roundw
          case rel => exact ⟨S + 1, by omega, by go_num, hA, hE⟩
          case measure => simp [intOf]; omega
    · obtain rfl : S = pw l.length := by omega
      have HL := hide (show (swL l need).length = l.length by rw [HF.out, accL_len])
      go_wp2
      go_ret
      refine ⟨some ⟨w.heap.size + 1, 0, none⟩, l.length, by rw [HL.out]; rfl, ?_, EA.trans hE⟩
      rw [HF.out]
      have := hA.row (base := w.heap.size) (by omega) (by rw [accL_len]; omega)
      rwa [accL_len] at this
theorem specSwings (sa : Option Addr) (cap : Nat) (l : List Int) (need : Int) (w : World) (h : Lst w sa l) (hl : l.length ≤ 2000000) :
    Calls Try.prog 26 #[.agg #[.slice sa l.length cap, .int .i64 need]] w (RetList (swL l need) w) := by
  have H := hide (h.ext ((Ext.refl w).alloc (.cells #[.slice sa l.length cap, .int .i64 need] 28)))
  have X0 := (Box.new w #[.slice sa l.length cap, .int .i64 need] 28)
  clear h
  by_cases hv : sb l need = true
  · go_enter Try.func26, Try.ntmps26
    go_wp2_with fail; refine (Ret.eqB (specSmall _ _ l need _ H.out hl) hv).mono ?_; rintro e w1 ⟨rfl, E1⟩
    obtain ⟨c0, c1, _, _⟩ := (X0.keep E1).two
    go_wp2_with fail; refine (specSw _ _ l need _ (H.out.ext E1) hv).mono ?_; rintro e w2 ⟨s2, c2, rfl, R2, hb⟩
    have EA := ((Ext.refl w).alloc (.cells #[.slice sa l.length cap, .int .i64 need] 28)).trans E1
    go_wp2
    go_ret
    exact ⟨s2, c2, rfl, R2.le EA.size, EA.trans (Ext.of hb)⟩
  · have HF := hide (show swL l need = [] from if_neg hv)
    rw [Bool.not_eq_true] at hv
    go_enter Try.func26, Try.ntmps26
    go_wp2_with fail; refine (Ret.eqB (specSmall _ _ l need _ H.out hl) hv).mono ?_; rintro e w1 ⟨rfl, E1⟩
    go_wp2
    go_ret
    exact RetList.of (base := 0) HF.out (Row.nil _ _) (((Ext.refl w).alloc _).trans E1)
end Go.Proofs.Ytjdfdikifiljjab
