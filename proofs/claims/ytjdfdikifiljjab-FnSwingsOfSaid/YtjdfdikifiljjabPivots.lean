/- Chapter 2: in how many orders each member decides: contracts. -/
import Derived.Test.YtjdfdikifiljjabOrders
import Derived.StillTailTactics
namespace Go.Proofs.Ytjdfdikifiljjab
open Go.ChangeShapes Go.WideShapes Go.ChangeAt Go.RowKit Go.Joins Go.Sort
set_option linter.unusedVariables false

theorem Same.still {P : Program} {f : FuncId} {args : Array Value} {w : World} {v : Value} (h : Calls P f args w (Same v w)) : Calls P f args w fun e w'' => e = .returned v ∧ w'' = w :=
  h.mono fun e w' ⟨a, b⟩ => ⟨a, b.symm⟩
def pvF (l : List Int) (need : Int) (s j : Nat) : Int := if dec l need s j then fI (mems s).length * fI ((l.length : Int) - 1 - (mems s).length) else 0
theorem fI_mul {x y : Int} (hx : x ≤ 8) (hy : y ≤ 8) : 0 ≤ fI x * fI y ∧ fI x * fI y ≤ 1625702400 := by
  obtain ⟨a1, a2⟩ := fI_bd hx
  obtain ⟨b1, b2⟩ := fI_bd hy
  exact ⟨Int.mul_nonneg a1 b1, Int.le_trans (Int.mul_le_mul a2 b2 b1 (by omega)) (by omega)⟩
theorem pvF_yes {l : List Int} {need : Int} {s j : Nat} (h : dec l need s j = true) : pvF l need s j = fI (mems s).length * fI ((l.length : Int) - 1 - (mems s).length) := if_pos h
theorem pvF_no {l : List Int} {need : Int} {s j : Nat} (h : dec l need s j = false) : pvF l need s j = 0 := if_neg (by rw [h]; simp)
def pvL (l : List Int) (need : Int) : List Int := if sb l need = true then accL (pvF l need) l.length (2 ^ l.length) else []
theorem pvL_len (l : List Int) (need : Int) : (pvL l need).length ≤ l.length := by
  unfold pvL; split
  · rw [accL_len]; omega
  · simp
theorem acc_bd2 (f : Nat → Nat → Int) (m : Int) (j S : Nat) (hf : ∀ s, s < S → 0 ≤ f s j ∧ f s j ≤ m) : 0 ≤ acc f j S ∧ acc f j S ≤ m * S := by
  induction S with
  | zero => simp [acc]
  | succ S ih =>
    have h1 := hf S (by omega)
    have h2 := ih fun s hs => hf s (by omega)
    unfold acc
    rw [Int.natCast_add, Int.mul_add]; omega
theorem pvF_bd (l : List Int) (need : Int) (s j : Nat) (hl : l.length ≤ 8) (hs : s < 2 ^ l.length) : 0 ≤ pvF l need s j ∧ pvF l need s j ≤ 1625702400 := by
  have := mems_len8 hs (by omega)
  unfold pvF; split
  · exact fI_mul (by omega) (by omega)
  · omega

set_option maxRecDepth 100000 in
set_option maxHeartbeats 2000000 in
theorem implPivots (sa : Option Addr) (cap : Nat) (l : List Int) (need : Int) (w : World) (h : Lst w sa l) (hl : l.length ≤ 2000000) :
    Calls Try.prog 32 #[.agg #[.slice sa l.length cap, .int .i64 need]] w (RetList (pvL l need) w) := by
  have H := hide (h.ext ((Ext.refl w).alloc (.cells #[.slice sa l.length cap, .int .i64 need] 28)))
  have X0 := (Box.new w #[.slice sa l.length cap, .int .i64 need] 28)
  clear h
  by_cases hv : sb l need = true
  · have HF := hide (show pvL l need = accL (pvF l need) l.length (2 ^ l.length) from if_pos hv)
    obtain ⟨v1, hl8⟩ := sb_iff.1 hv
    obtain ⟨_, _, hx, hn0, hnt⟩ := vb_iff.1 v1
    have hbt := tot_bd l 100 hx
    have HX := hide hx; clear hx
    have hp8 := pow8 hl8
    have hpb := pow_bd (m := l.length) (by omega)
    clear v1
    go_enter Try.func32, Try.ntmps32
    go_wp2_with fail; refine (Ret.eqB (implSmall _ _ l need _ H.out hl) hv).mono ?_; rintro e w1 ⟨rfl, E1⟩
    have X1 := X0.keep E1
    have H1 := hide (H.out.ext E1)
    have EA := ((Ext.refl w).alloc (.cells #[.slice sa l.length cap, .int .i64 need] 28)).trans E1
    obtain ⟨c0, c1, _, _⟩ := X1.two
    have hmk := run_makeInts l.length hl
    go_wp2
    clear hmk c0 c1 X0 H E1
    go_loopw [4] (fun u wr => ∃ S : Nat, S ≤ 2 ^ l.length ∧ u = .int .i64 S ∧ Arr wr w1.heap.size (accL (pvF l need) l.length S) ∧ Ext w1 wr) (fun u _ => 2 ^ l.length - (intOf u).toNat)
    case atStart => exact ⟨0, Nat.zero_le _, rfl, by rw [accL_zero]; exact Arr.new w1 _, (Ext.refl _).alloc _⟩
    case round =>
      obtain ⟨S, hS, rfl, hA, hE⟩ := hrel
      obtain ⟨c0, c1, _, _⟩ := (X1.keep hE).two
      by_cases hlt : S < 2 ^ l.length
      · have d1 : decide ((S : Int) < 2 ^ l.length) = true := decide_eq_true (by rw [← pow_cast]; omega)
        rw [← accM_zero] at hA
        have hk := mems_len8 hlt (by omega)
        obtain ⟨A, B, hAB, HA, HB, HP⟩ : ∃ A B : Int, (0 ≤ A * B ∧ A * B ≤ 1625702400) ∧ Hid (∀ w, Calls Try.prog 72 #[.int .i64 ((mems S).length : Int)] w (Same (.int .i64 A) w)) ∧ Hid (∀ w, Calls Try.prog 72 #[.int .i64 ((l.length : Int) - 1 - ((mems S).length : Int))] w (Same (.int .i64 B) w)) ∧ Hid (∀ j, dec l need S j = true → pvF l need S j = A * B) :=
          ⟨fI ((mems S).length : Int), fI ((l.length : Int) - 1 - ((mems S).length : Int)), fI_mul (by omega) (by omega), fun w => implOrders ((mems S).length : Int) w (by omega) (by omega), fun w => implOrders _ w (by omega) (by omega), fun j h => pvF_yes h⟩
        go_wp2_with fail; refine (implListOf S _ (by omega)).mono ?_; rintro e w3 ⟨s3, c3, rfl, _, hb3⟩
        have hA := hA.keep (Ext.of hb3)
        have hE := hE.trans (Ext.of hb3)
        clear c0 c1 hb3
        obtain ⟨c0, c1, _, _⟩ := (X1.keep hE).two
        obtain ⟨kk, hkk⟩ : ∃ kk, kk = (mems S).length := ⟨_, rfl⟩; rw [← hkk] at hk HA HB ⊢
        clear hkk
        go_wp2
        obtain ⟨wo, rfl⟩ : ∃ wo : World, wo = w3 := ⟨_, rfl⟩
        clear c0 c1
        go_loopw [35] (fun u wr => ∃ i : Nat, i ≤ l.length ∧ u = .int .i64 i ∧ Arr wr w1.heap.size (accM (pvF l need) l.length S i) ∧ Ext w1 wr) (fun u _ => l.length - (intOf u).toNat)
        case atStart => exact ⟨0, Nat.zero_le _, rfl, hA, hE⟩
        case round =>
          clear hA hE
          obtain ⟨i, hi, rfl, hA, hE⟩ := hrel
          obtain ⟨c0, c1, _, _⟩ := (X1.keep hE).two
          by_cases hlt2 : i < l.length
          · go_wp2_with fail
            refine (implDecides _ _ l need S i _ (H1.out.ext hE) (by omega) HX.out (by omega) (by omega) (by omega) hlt2).mono ?_; rintro e w2 ⟨rfl, E2⟩
            have hA2 := hA.keep E2
            by_cases hd : dec l need S i = true
            · have HS := hide (accM_set (pvF l need) l.length S i hlt2)
              rw [HP.out i hd] at HS
              have cv := hA2.cell (j := i) (by rw [accM_len]; exact hlt2)
              have fv := hA2.free i
              have hb := acc_bd2 (pvF l need) 1625702400 i S (fun s hs => pvF_bd l need s i hl8 (Nat.lt_trans hs hlt))
              rw [accM_at _ _ _ _ _ hlt2, if_neg (Nat.lt_irrefl i), Int.add_zero] at cv HS
              obtain ⟨x, hxx⟩ : ∃ x, x = acc (pvF l need) i S := ⟨_, rfl⟩; rw [← hxx] at cv hb HS
              clear hxx
              go_wp2
              have hm1 : IntKind.i64.wrap (A * B) = A * B := IntWalk.i64_in _ (by omega)
              have hm2 : IntKind.i64.wrap (x + A * B) = x + A * B := IntWalk.i64_in _ (by omega)
              refine wp_region_still_tail 10 (by kernel_rfl) (by kernel_rfl) ?_
              simp only [List.take_succ_cons, List.take_zero, List.drop_succ_cons, List.drop_zero]
              repeat still_step
              still_call (Same.still (HA.out _))
              repeat still_step
              still_call (Same.still (HB.out _))
              repeat still_step
              refine wpStill_nil ?_
              clear hm1 hm2
              change wpList _ _ _ _ _ w2.drew
              go_wp2
              go_roundw
              case rel => exact ⟨i + 1, by omega, by go_num, by rw [← HS.out]; exact (hA2.set i (x + A * B)).drew, ((hE.trans E2).setCell (Nat.le_refl _) _).drew⟩
              case measure => simp [intOf]; omega
            · rw [Bool.not_eq_true] at hd
              have HS := hide (accM_same (pvF l need) l.length S i (pvF_no hd))
              go_wp2
              go_roundw
              case rel => exact ⟨i + 1, by omega, by go_num, by rw [← HS.out]; exact hA2, hE.trans E2⟩
              case measure => simp [intOf]; omega
          · obtain rfl : i = l.length := by omega
            rw [accM_full] at hA
            go_wp2
            go_roundw
            case rel => exact ⟨S + 1, by omega, by go_num, hA, hE⟩
            case measure => simp [intOf]; omega
      · obtain rfl : S = 2 ^ l.length := by omega
        have d1 : decide (((2 ^ l.length : Nat) : Int) < 2 ^ l.length) = false := decide_eq_false (by rw [← pow_cast]; omega)
        have HL := hide (show (pvL l need).length = l.length by rw [HF.out, accL_len])
        go_wp2
        go_ret
        refine ⟨some ⟨w1.heap.size, 0, none⟩, l.length, by rw [HL.out]; rfl, ?_, EA.trans hE⟩
        rw [HF.out]
        have := hA.row (base := w.heap.size) EA.size (by rw [accL_len]; exact hl)
        rwa [accL_len] at this
  · have HF := hide (show pvL l need = [] from if_neg hv)
    rw [Bool.not_eq_true] at hv
    go_enter Try.func32, Try.ntmps32
    go_wp2_with fail; refine (Ret.eqB (implSmall _ _ l need _ H.out hl) hv).mono ?_; rintro e w1 ⟨rfl, E1⟩
    go_wp2
    go_ret
    exact RetList.of (base := 0) HF.out (Row.nil _ _) (((Ext.refl w).alloc _).trans E1)
set_option maxRecDepth 100000 in
set_option maxHeartbeats 4000000 in
theorem specPv (sa : Option Addr) (cap : Nat) (l : List Int) (need : Int) (w : World) (h : Lst w sa l) (hv : sb l need = true) :
    Calls Try.prog 71 #[.agg #[.slice sa l.length cap, .int .i64 need]] w (RetList (pvL l need) w) := by
  have H1 := hide (h.ext ((Ext.refl w).alloc (.cells #[.slice sa l.length cap, .int .i64 need] 28)))
  have X1 := (Box.new w #[.slice sa l.length cap, .int .i64 need] 28)
  have EA := (Ext.refl w).alloc (.cells #[.slice sa l.length cap, .int .i64 need] 28)
  clear h
  have HF := hide (show pvL l need = accL (pvF l need) l.length (2 ^ l.length) from if_pos hv)
  obtain ⟨v1, hl8⟩ := sb_iff.1 hv
  obtain ⟨_, _, hx, hn0, hnt⟩ := vb_iff.1 v1
  have hbt := tot_bd l 100 hx
  have HX := hide hx; clear hx
  have hp8 : pw l.length ≤ 256 := pow8 hl8
  clear v1 hv
  have hmk := run_makeInts l.length (by omega)
  obtain ⟨c0, c1, _, _⟩ := X1.two
  go_enter Try.func71, Try.ntmps71
  go_wp2
  clear hmk c0 c1
  go_loopw [5] (fun u wr => ∃ S : Nat, S ≤ pw l.length ∧ u = .int .i64 S ∧ Arr wr (w.heap.size + 1) (accL (pvF l need) l.length S) ∧ Ext (w.alloc (.cells #[.slice sa l.length cap, .int .i64 need] 28)) wr) (fun u _ => pw l.length - (intOf u).toNat)
  case atStart => exact ⟨0, Nat.zero_le _, rfl, by rw [accL_zero]; exact Arr.newAt _ _ _ (by simp), (Ext.refl _).alloc _⟩
  case round =>
    obtain ⟨S, hS, rfl, hA, hE⟩ := hrel
    obtain ⟨c0, c1, _, _⟩ := (X1.keep hE).two
    go_wp2_with fail; refine (specPower l.length _ (by omega)).mono ?_; rintro e w' ⟨rfl, rfl⟩
    by_cases hlt : S < pw l.length
    · rw [← accM_zero] at hA
      have hk := mems_len8 (show S < 2 ^ l.length from hlt) (by omega)
      obtain ⟨A, B, hAB, HA, HB, HP⟩ : ∃ A B : Int, (0 ≤ A * B ∧ A * B ≤ 1625702400) ∧ Hid (∀ w, Calls Try.prog 100 #[.int .i64 ((mems S).length : Int)] w (Same (.int .i64 A) w)) ∧ Hid (∀ w, Calls Try.prog 100 #[.int .i64 ((l.length : Int) - 1 - ((mems S).length : Int))] w (Same (.int .i64 B) w)) ∧ Hid (∀ j, dec l need S j = true → pvF l need S j = A * B) :=
        ⟨fI ((mems S).length : Int), fI ((l.length : Int) - 1 - ((mems S).length : Int)), fI_mul (by omega) (by omega), fun w => specFac ((mems S).length : Int) w (by omega) (by omega), fun w => specFac _ w (by omega) (by omega), fun j h => pvF_yes h⟩
      go_wp2_with fail; refine (specMembers S _ (by omega)).mono ?_; rintro e w3 ⟨s3, c3, rfl, _, hb3⟩
      have hA := hA.keep (Ext.of hb3)
      have hE := hE.trans (Ext.of hb3)
      clear c0 c1 hb3
      obtain ⟨c0, c1, _, _⟩ := (X1.keep hE).two
      obtain ⟨kk, hkk⟩ : ∃ kk, kk = (mems S).length := ⟨_, rfl⟩; rw [← hkk] at hk HA HB ⊢
      clear hkk
      go_wp2
      obtain ⟨wo, rfl⟩ : ∃ wo : World, wo = w3 := ⟨_, rfl⟩
      clear c0 c1
      go_loopw [7] (fun u wr => ∃ i : Nat, i ≤ l.length ∧ u = .int .i64 i ∧ Arr wr (w.heap.size + 1) (accM (pvF l need) l.length S i) ∧ Ext (w.alloc (.cells #[.slice sa l.length cap, .int .i64 need] 28)) wr) (fun u _ => l.length - (intOf u).toNat)
      case atStart => exact ⟨0, Nat.zero_le _, rfl, hA, hE⟩
      case round =>
        clear hA hE
        obtain ⟨i, hi, rfl, hA, hE⟩ := hrel
        obtain ⟨c0, c1, _, _⟩ := (X1.keep hE).two
        by_cases hlt2 : i < l.length
        · obtain ⟨r0, r1⟩ := X1.reads hE
          have hws := wrap_plus (s := S) (i := i) (by omega) (by omega)
          have hpi : plus S i ≤ 5000 := by unfold plus; have := pow12 (n := i) (by omega); omega
          by_cases hd : dec l need S i = true
          · have HS := hide (accM_set (pvF l need) l.length S i hlt2)
            rw [HP.out i hd] at HS
            unfold dec at hd
            rw [Bool.and_eq_true, Bool.and_eq_true, Bool.not_eq_true', Bool.not_eq_true'] at hd
            obtain ⟨g1, g2, g3⟩ := hd
            have g3 : winB l need (plus S i) = true := g3
            go_wp2
            refine wp_region_quiet_below (by kernel_rfl) (by kernel_rfl) ?_
            repeat (go_big_quiet_step ((first | (go_at_call 98; exact Same.quiet (specHas S i _ (by omega) (by omega))) | (go_at_call 62; exact Same.quiet (specPower i _ (by omega))) | (go_at_call 83; exact Ret.quiet (specWin _ _ l need _ _ (H1.out.ext (hE.trans (below_regrown _ _ _))) (by omega) HX.out (by omega))))))
            refine wpQuiet_nil ?_; intro w2 hq; have E2 := Ext.class hq; clear hq
            clear r0 r1 hws c0 c1
            have hA2 := hA.keep E2
            have cv := hA2.cell (j := i) (by rw [accM_len]; exact hlt2)
            have fv := hA2.free i
            have hb := acc_bd2 (pvF l need) 1625702400 i S (fun s hs => pvF_bd l need s i hl8 (Nat.lt_trans hs hlt))
            rw [accM_at _ _ _ _ _ hlt2, if_neg (Nat.lt_irrefl i), Int.add_zero] at cv HS
            obtain ⟨x, hxx⟩ : ∃ x, x = acc (pvF l need) i S := ⟨_, rfl⟩; rw [← hxx] at cv hb HS
            clear hxx
            go_wp2
            have hm3 : IntKind.i64.wrap ((l.length : Int) - 1) = (l.length : Int) - 1 := IntWalk.i64_in _ (by omega)
            have hm4 : IntKind.i64.wrap ((l.length : Int) - 1 - (kk : Int)) = (l.length : Int) - 1 - (kk : Int) := IntWalk.i64_in _ (by omega)
            have hm1 : IntKind.i64.wrap (A * B) = A * B := IntWalk.i64_in _ (by omega)
            have hm2 : IntKind.i64.wrap (x + A * B) = x + A * B := IntWalk.i64_in _ (by omega)
            refine wp_region_still_tail 15 (by kernel_rfl) (by kernel_rfl) ?_
            simp only [List.take_succ_cons, List.take_zero, List.drop_succ_cons, List.drop_zero]
            repeat still_step
            still_call (Same.still (HA.out _))
            repeat still_step
            still_call (Same.still (HB.out _))
            repeat still_step
            refine wpStill_nil ?_
            clear hm1 hm2 hm3 hm4
            change wpList _ _ _ _ _ w2.drew
            go_wp2
            go_roundw
            case rel => exact ⟨i + 1, by omega, by go_num, by rw [← HS.out]; exact (hA2.set i (x + A * B)).drew, ((hE.trans E2).setCell (by simp) _).drew⟩
            case measure => simp [intOf]; omega
          · rw [Bool.not_eq_true] at hd
            have HS := hide (accM_same (pvF l need) l.length S i (pvF_no hd))
            unfold dec at hd
            by_cases g1 : S.testBit i = true
            · clear hd
              go_wp2
              refine wp_region_quiet_below (by kernel_rfl) (by kernel_rfl) ?_
              repeat (go_big_quiet_step ((first | (go_at_call 98; exact Same.quiet (specHas S i _ (by omega) (by omega))))))
              refine wpQuiet_nil ?_; intro w2 hq; have E2 := Ext.class hq; clear hq
              clear r0 r1 hws
              go_wp2
              go_roundw
              case rel => exact ⟨i + 1, by omega, by go_num, by rw [← HS.out]; exact hA.keep E2, hE.trans E2⟩
              case measure => simp [intOf]; omega
            · rw [Bool.not_eq_true] at g1
              rw [g1, Bool.not_false, Bool.true_and] at hd
              by_cases g2 : winB l need S = true
              · clear hd
                go_wp2
                refine wp_region_quiet_below (by kernel_rfl) (by kernel_rfl) ?_
                repeat (go_big_quiet_step ((first | (go_at_call 98; exact Same.quiet (specHas S i _ (by omega) (by omega))) | (go_at_call 83; exact Ret.quiet (specWin _ _ l need _ _ (H1.out.ext (hE.trans (below_regrown _ _ _))) (by omega) HX.out (by omega))))))
                refine wpQuiet_nil ?_; intro w2 hq; have E2 := Ext.class hq; clear hq
                clear r0 r1 hws
                go_wp2
                go_roundw
                case rel => exact ⟨i + 1, by omega, by go_num, by rw [← HS.out]; exact hA.keep E2, hE.trans E2⟩
                case measure => simp [intOf]; omega
              · rw [Bool.not_eq_true] at g2
                rw [g2, Bool.not_false, Bool.true_and] at hd
                have g3 : winB l need (plus S i) = false := hd
                clear hd
                go_wp2
                refine wp_region_quiet_below (by kernel_rfl) (by kernel_rfl) ?_
                repeat (go_big_quiet_step ((first | (go_at_call 98; exact Same.quiet (specHas S i _ (by omega) (by omega))) | (go_at_call 62; exact Same.quiet (specPower i _ (by omega))) | (go_at_call 83; exact Ret.quiet (specWin _ _ l need _ _ (H1.out.ext (hE.trans (below_regrown _ _ _))) (by omega) HX.out (by omega))))))
                refine wpQuiet_nil ?_; intro w2 hq; have E2 := Ext.class hq; clear hq
                clear r0 r1 hws
                go_wp2
                go_roundw
                case rel => exact ⟨i + 1, by omega, by go_num, by rw [← HS.out]; exact hA.keep E2, hE.trans E2⟩
                case measure => simp [intOf]; omega
        · obtain rfl : i = l.length := by omega
          rw [accM_full] at hA
          go_wp2
          go_roundw
          case rel => exact ⟨S + 1, by omega, by go_num, hA, hE⟩
          case measure => simp [intOf]; omega
    · obtain rfl : S = pw l.length := by omega
      have HL := hide (show (pvL l need).length = l.length by rw [HF.out, accL_len])
      go_wp2
      go_ret
      refine ⟨some ⟨w.heap.size + 1, 0, none⟩, l.length, by rw [HL.out]; rfl, ?_, EA.trans hE⟩
      rw [HF.out]
      have := hA.row (base := w.heap.size) (by omega) (by rw [accL_len]; omega)
      rwa [accL_len] at this
theorem specPivots (sa : Option Addr) (cap : Nat) (l : List Int) (need : Int) (w : World) (h : Lst w sa l) (hl : l.length ≤ 2000000) :
    Calls Try.prog 31 #[.agg #[.slice sa l.length cap, .int .i64 need]] w (RetList (pvL l need) w) := by
  have H := hide (h.ext ((Ext.refl w).alloc (.cells #[.slice sa l.length cap, .int .i64 need] 28)))
  have X0 := (Box.new w #[.slice sa l.length cap, .int .i64 need] 28)
  clear h
  by_cases hv : sb l need = true
  · go_enter Try.func31, Try.ntmps31
    go_wp2_with fail; refine (Ret.eqB (specSmall _ _ l need _ H.out hl) hv).mono ?_; rintro e w1 ⟨rfl, E1⟩
    obtain ⟨c0, c1, _, _⟩ := (X0.keep E1).two
    go_wp2_with fail; refine (specPv _ _ l need _ (H.out.ext E1) hv).mono ?_; rintro e w2 ⟨s2, c2, rfl, R2, hb⟩
    have EA := ((Ext.refl w).alloc (.cells #[.slice sa l.length cap, .int .i64 need] 28)).trans E1
    go_wp2
    go_ret
    exact ⟨s2, c2, rfl, R2.le EA.size, EA.trans (Ext.of hb)⟩
  · have HF := hide (show pvL l need = [] from if_neg hv)
    rw [Bool.not_eq_true] at hv
    go_enter Try.func31, Try.ntmps31
    go_wp2_with fail; refine (Ret.eqB (specSmall _ _ l need _ H.out hl) hv).mono ?_; rintro e w1 ⟨rfl, E1⟩
    go_wp2
    go_ret
    exact RetList.of (base := 0) HF.out (Row.nil _ _) (((Ext.refl w).alloc _).trans E1)
end Go.Proofs.Ytjdfdikifiljjab
