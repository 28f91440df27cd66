/- Chapter 2: the walk of the law of pivots, at drawn arguments. -/
import Derived.Test.YtjdfdikifiljjabLawW
import Derived.Test.YtjdfdikifiljjabPureF
import Derived.Test.YtjdfdikifiljjabDrawE
import Derived.Deep.RegionHeld3
namespace Go.Proofs.Ytjdfdikifiljjab
open Go.ChangeShapes Go.WideShapes Go.ChangeAt Go.RowKit Go.Joins Go.Sort
set_option linter.unusedVariables false

theorem tot_ge {l : List Int} (h : ∀ x ∈ l, 0 ≤ x) {x : Int} (hx : x ∈ l) : x ≤ tot l := by
  induction l with
  | nil => cases hx
  | cons a l ih =>
    have hn : ∀ y ∈ l, 0 ≤ y := fun y hy => h y (List.mem_cons_of_mem _ hy)
    have ha := h a (List.mem_cons_self ..)
    have hz : 0 ≤ tot l := by
      clear ih hx
      induction l with
      | nil => exact Int.le_refl _
      | cons b l ih2 => rw [tot_cons]; have := hn b (List.mem_cons_self ..); have := ih2 (fun y hy => h y (by rcases List.mem_cons.1 hy with rfl | hy; exact List.mem_cons_self ..; exact List.mem_cons_of_mem _ (List.mem_cons_of_mem _ hy))) (fun y hy => hn y (List.mem_cons_of_mem _ hy)); omega
    rw [tot_cons]
    rcases List.mem_cons.1 hx with rfl | hx
    · omega
    · have := ih hn hx; omega
theorem pvL_bd {l : List Int} {need : Int} (h : sb l need = true) : ∀ x ∈ pvL l need, 0 ≤ x ∧ x ≤ 1000000 := by
  have h8 := (sb_iff.1 h).2
  have hnn : ∀ x ∈ pvL l need, 0 ≤ x := fun x hx => by
    unfold pvL at hx
    rw [if_pos h] at hx
    unfold accL at hx
    obtain ⟨j, _, rfl⟩ := List.mem_map.1 hx
    exact acc_nn _ _ _ fun s _ => pvF_nn l need s j
  intro x hx
  have h1 := tot_ge hnn hx
  rw [piv_total h] at h1
  have := fac_bd l.length h8
  exact ⟨hnn x hx, by omega⟩
set_option maxHeartbeats 400000 in
theorem lawFac (n : Nat) (w : World) (h1 : 1 ≤ n) (h8 : n ≤ 8) : Calls Try.prog 54 #[.int .i64 n] w (Same (.int .i64 (fac n)) w) := by
  go_enter Try.func54, Try.ntmps54
  go_wp2
  go_loop [3, 4] (fun o i => ∃ (c q : Nat), 1 ≤ c ∧ c ≤ n ∧ i = .int .i64 ((c : Int) + 1) ∧ o = .int .i64 q ∧ Hid (q = fac c)) (fun _ i => n + 1 - (intOf i).toNat)
  case atStart => exact ⟨1, 1, Nat.le_refl _, h1, rfl, rfl, rfl⟩
  case round =>
    obtain ⟨c, q, hc1, hc, rfl, rfl, HQ⟩ := hrel
    have hq : q ≤ 40320 := by rw [HQ.out]; exact fac_bd c (by omega)
    by_cases hlt : c + 1 ≤ n
    · have hd : decide ((c : Int) + 1 ≤ (n : Int)) = true := decide_eq_true (by omega)
      have HQ2 := hide (show q * (c + 1) = fac (c + 1) by rw [HQ.out, fac_succ, Nat.mul_comm])
      have hb2 : q * (c + 1) ≤ 40320 := by rw [HQ2.out]; exact fac_bd _ (by omega)
      have hwm : IntKind.i64.wrap ((q : Int) * ((c : Int) + 1)) = ((q * (c + 1) : Nat) : Int) := by
        have e : (q : Int) * ((c : Int) + 1) = ((q * (c + 1) : Nat) : Int) := by rw [Int.natCast_mul]; rfl
        rw [e]; exact IntWalk.i64_in _ (by omega)
      obtain ⟨z, hz⟩ : ∃ z, z = q * (c + 1) := ⟨_, rfl⟩
      rw [← hz] at hwm HQ2
      clear hz hb2
      go_wp2
      go_round
      case rel => exact ⟨c + 1, z, by omega, by omega, by go_num, rfl, HQ2⟩
      case measure => simp [intOf]; omega
    · have hd : decide ((c : Int) + 1 ≤ (n : Int)) = false := decide_eq_false (by omega)
      have HF := hide (show (q : Int) = (fac n : Int) by rw [HQ.out]; have : c = n := by omega
                                                         rw [this])
      go_wp2
      go_ret
      exact Same.int HF.out

set_option maxRecDepth 100000 in
set_option maxHeartbeats 2000000 in
theorem walkFnPivotsOf (w : World) (sa : Option Addr) (len cap : Nat) (h : Code w sa len cap) (hl : len ≤ maxLen) :
    Calls Try.prog 13 #[.slice sa len cap] w fun e w' => e = .returned (.bool true) ∧ Below w.heap.size w w' := by
  have hl' := hl
  unfold maxLen at hl'
  by_cases hbig : 1048576 < len
  · clear h hl
    go_enter Try.func13, Try.ntmps13
    go_wp2
    go_ret
    exact ⟨rfl, Below.refl _ _⟩
  · go_enter Try.func13, Try.ntmps13
    go_wp2_with fail
    refine (dDrawPivotsOf sa len cap w h hl).mono ?_
    rintro e w1 ⟨sb, cb, l, need, rfl, hR, l1, l2, hx, n1, n2, E1⟩
    have HL := hide hR.lst
    have X1 := Box.new w1 #[.slice sb l.length cb, .int .i64 need] 28
    have EA := (Ext.refl w1).alloc (.cells #[.slice sb l.length cb, .int .i64 need] 28)
    obtain ⟨c0, c1, _, _⟩ := X1.two
    clear h hl hl' hbig
    clear hR hx
    have hvl := pvL_len l need
    have HMo := hide fun h i k hi hk hw => @pv_mono l need i k h hi hk hw
    have HDu := hide fun h => @pv_dual l need h
    have HLn := hide fun h => @pvL_len2 l need h
    have HL0 := hide (show ¬ Go.Proofs.Ytjdfdikifiljjab.sb l need = true → (pvL l need).length ≤ 0 from fun h => by unfold pvL; rw [if_neg h]; simp)
    have HTo := hide fun h => @piv_total l need h
    have HBd := hide fun h => @pvL_bd l need h
    go_wp2_with fail; refine (implPivots sb cb l need _ (HL.out.ext EA) (by omega)).mono ?_; rintro e w2 ⟨s2, c2, rfl, R2, hb2⟩
    have E2 := Ext.of hb2
    clear c0 c1 hb2
    obtain ⟨c0, c1, _, _⟩ := (X1.keep E2).two
    have CS := hide fun w h => specPivots sb cb l need w h (by omega)
    go_wp2_with fail; refine (CS.out _ (HL.out.ext (EA.trans E2))).mono ?_; rintro e w3 ⟨s3, c3, rfl, R3, hb3⟩
    have E3 := Ext.of hb3
    have HV := hide (R2.lst.ext E3)
    obtain ⟨V, hV⟩ : ∃ V, V = pvL l need := ⟨_, rfl⟩; rw [← hV] at HV R3 CS hvl HMo HDu HLn HL0 HTo HBd ⊢
    clear c0 c1 hb3 hV
    have X3 := X1.keep (E2.trans E3)
    have E13 := EA.trans (E2.trans E3)
    obtain ⟨c0, c1, _, _⟩ := X3.two
    go_wp2_with fail; refine (eqInts_same s2 s3 c2 c3 V.length V _ HV.out R3.lst rfl (by omega)).mono ?_; rintro e w4 ⟨rfl, E4⟩
    clear c0 c1
    have X4 := X3.keep E4
    have E14 := E13.trans E4
    have HV4 := hide (HV.out.ext E4)
    by_cases hs : Go.Proofs.Ytjdfdikifiljjab.sb l need = true
    · obtain ⟨hv, h8⟩ := sb_iff.1 hs
      have hle1 : l.length ≤ V.length := Nat.le_of_eq (HLn.out hs).symm
      have hle2 : V.length ≤ l.length := Nat.le_of_eq (HLn.out hs)
      have hv0 : ((V.length : Int) == 0) = false := by rw [beq_eq_false_iff_ne]; omega
      have HM2 := hide fun i k hi hk hw => HMo.out hs i k hi hk hw
      have HD2 := hide (HDu.out hs)
      obtain ⟨dn, hdn⟩ : ∃ dn, dn = tot l - need + 1 := ⟨_, rfl⟩
      rw [← hdn] at HD2
      have Hdn := hide hdn
      have HTo2 := hide (HTo.out hs)
      have HBd2 := hide (HBd.out hs)
      clear HTo HBd
      clear hs hdn HMo HDu HLn HL0
      go_wp2
      go_loopw [5] (fun i wr => ∃ k : Nat, k ≤ V.length ∧ i = .int .i64 k ∧ Ext w4 wr) (fun i _ => V.length - (intOf i).toNat)
      case atStart => exact ⟨0, Nat.zero_le _, rfl, Ext.refl _⟩
      case round =>
        obtain ⟨i, hi, rfl, hE⟩ := hrel
        by_cases hlt : i < V.length
        · have hE0 := hE
          go_wp2
          go_loopw [6] (fun j wx => ∃ q : Nat, q ≤ V.length ∧ j = .int .i64 q ∧ Ext w4 wx) (fun j _ => V.length - (intOf j).toNat)
          case atStart => exact ⟨0, Nat.zero_le _, rfl, hE⟩
          case round =>
            clear hE hE0
            obtain ⟨k, hk, rfl, hE⟩ := hrel
            by_cases hlq : k < V.length
            · have EX := E14.trans hE
              have XR := X4.keep hE
              obtain ⟨r0, r1⟩ := XR.reads (Ext.refl wr)
              obtain ⟨gl, ol, rfl, hgl, e1⟩ := (HL.out.ext EX).at (k := i) (by omega)
              obtain ⟨gl2, ol2, e9, hgl2, e2⟩ := (HL.out.ext EX).at (k := k) (by omega)
              cases e9
              obtain ⟨gv, ov, rfl, hgv, e3⟩ := (HV4.out.ext hE).at hlt
              obtain ⟨gv2, ov2, e9, hgv2, e4⟩ := (HV4.out.ext hE).at hlq
              cases e9
              have hm := HM2.out i k (by omega) (by omega)
              obtain ⟨xw, hxw⟩ : ∃ xw, xw = l.getD i 0 := ⟨_, rfl⟩; rw [← hxw] at e1 hm
              obtain ⟨yw, hyw⟩ : ∃ yw, yw = l.getD k 0 := ⟨_, rfl⟩; rw [← hyw] at e2 hm
              obtain ⟨xo, hxo⟩ : ∃ xo, xo = V.getD i 0 := ⟨_, rfl⟩; rw [← hxo] at e3 hm
              obtain ⟨yo, hyo⟩ : ∃ yo, yo = V.getD k 0 := ⟨_, rfl⟩; rw [← hyo] at e4 hm
              have q1 := cell_regrown e1
              have q2 := cell_regrown e2
              have q3 := cell_regrown e3
              have q4 := cell_regrown e4
              have z1 : (i : Int) < (l.length : Int) := by omega
              have z2 : (k : Int) < (l.length : Int) := by omega
              have z3 : (i : Int) < (V.length : Int) := by omega
              have z4 : (k : Int) < (V.length : Int) := by omega
              have z5 : i < l.length := by omega
              have z6 : k < l.length := by omega
              clear hxw hyw hxo hyo e1 e2 e3 e4
              by_cases hw : yw ≤ xw
              · have t1 : decide (yw ≤ xw) = true := decide_eq_true hw
                have t2 : decide (xo < yo) = false := decide_eq_false (by have := hm hw; omega)
                clear hw hm
                go_wp2
                refine wp_region_quiet_below (by kernel_rfl) (by kernel_rfl) ?_
                repeat (go_big_quiet_step (fail))
                refine wpQuiet_nil ?_; intro w9 hq; have E9 := Ext.class hq; clear hq
                go_wp2
                go_roundw
                case rel => exact ⟨k + 1, by omega, by go_num, hE.trans E9⟩
                case measure => simp [intOf]; omega
              · have t1 : decide (yw ≤ xw) = false := decide_eq_false hw
                clear hw hm
                go_wp2
                refine wp_region_quiet_below (by kernel_rfl) (by kernel_rfl) ?_
                repeat (go_big_quiet_step (fail))
                refine wpQuiet_nil ?_; intro w9 hq; have E9 := Ext.class hq; clear hq
                go_wp2
                go_roundw
                case rel => exact ⟨k + 1, by omega, by go_num, hE.trans E9⟩
                case measure => simp [intOf]; omega
            · obtain rfl : k = V.length := by omega
              go_wp2
              go_roundw
              case rel => exact ⟨i + 1, by omega, by go_num, hE⟩
              case measure => simp [intOf]; omega
        · obtain rfl : i = V.length := by omega
          have EX := E14.trans hE
          have XR := X4.keep hE
          have HVX := hide (HV4.out.ext hE)
          have CT := hide fun w (E : Ext wr w) => lawTotal s2 c2 V.length V w (HVX.out.ext E) rfl (by omega) HBd2.out
          rw [HTo2.out] at CT
          have CF := hide fun w => lawFac l.length w (by omega) h8
          obtain ⟨fn, hfn⟩ : ∃ fn, fn = (fac l.length : Int) := ⟨_, rfl⟩
          rw [← hfn] at CT CF
          have hff : (fn == fn) = true := by simp
          have HK := hide (show ∀ w', Ext wr w' → w'.cell? ⟨w1.heap.size, 0, none⟩ = some (.slice sb l.length cb) ∧ w'.cell? ⟨w1.heap.size, 1, none⟩ = some (.int .i64 need) from fun w' E => ⟨(XR.keep E).two.1, (XR.keep E).two.2.1⟩)
          clear hfn
          go_wp2
          refine wp_region_held_drew (S := (fun w' => w'.cell? ⟨w1.heap.size, 0, none⟩ = some (.slice sb l.length cb) ∧ w'.cell? ⟨w1.heap.size, 1, none⟩ = some (.int .i64 need))) (by kernel_rfl) (by first | exact HK.out _ ((Ext.refl wr).drew)) (fun hHeld => ?_)
          refine wpAnyH_take (i := 0) (oi := _) (v := ?_) rfl (by kernel_rfl) (by kernel_rfl) (by kernel_rfl) (fun _ _ _ h => h) (Or.inl ⟨by rfl, ?_⟩) (by assumption) ?_
          rotate_left
          · (intro w hSw; (try dsimp only at hSw); (try obtain ⟨hS0, hS1⟩ := hSw); go_simp; (try with_reducible rfl))
          (try simp only [List.getElem_toArray, List.getElem_cons_zero, Act.put, List.setIfInBounds_toArray, List.set_cons_zero, List.set_cons_succ])
          refine wpAnyH_take (i := 2) (oi := _) (v := ?_) rfl (by kernel_rfl) (by kernel_rfl) (by kernel_rfl) (fun _ _ _ h => h) (Or.inl ⟨by rfl, ?_⟩) (by assumption) ?_
          rotate_left
          · (intro w hSw; (try dsimp only at hSw); (try obtain ⟨hS0, hS1⟩ := hSw); go_simp; (try with_reducible rfl))
          (try simp only [List.getElem_toArray, List.getElem_cons_succ, List.getElem_cons_zero, Act.put, List.setIfInBounds_toArray, List.set_cons_zero, List.set_cons_succ])
          refine wpAnyH_take (i := 3) (oi := _) (v := ?_) rfl (by kernel_rfl) (by kernel_rfl) (by kernel_rfl) (fun _ _ _ h => h) (Or.inl ⟨by rfl, ?_⟩) (by assumption) ?_
          rotate_left
          · (intro w hSw; (try dsimp only at hSw); (try obtain ⟨hS0, hS1⟩ := hSw); go_simp; (try with_reducible rfl))
          (try simp only [List.getElem_toArray, List.getElem_cons_succ, List.getElem_cons_zero, Act.put, List.setIfInBounds_toArray, List.set_cons_zero, List.set_cons_succ])
          refine wpAnyH_take (i := 4) (oi := _) (v := ?_) rfl (by kernel_rfl) (by kernel_rfl) (by kernel_rfl) (fun _ _ _ h => h) (Or.inl ⟨by rfl, ?_⟩) (by assumption) ?_
          rotate_left
          · (intro w hSw; (try dsimp only at hSw); (try obtain ⟨hS0, hS1⟩ := hSw); go_simp; (try with_reducible rfl))
          (try simp only [List.getElem_toArray, List.getElem_cons_succ, List.getElem_cons_zero, Act.put, List.setIfInBounds_toArray, List.set_cons_zero, List.set_cons_succ])
          refine wpAnyH_ready (rs := [1]) (by kernel_rfl) (by simp) ?_
          refine AllReadyH.cons (o := _) rfl (fun K hK => ?_) AllReadyH.nil
          go_simp
          refine (CT.out _ (((Ext.refl wr).drew))).mono ?_; rintro e w' ⟨rfl, rfl⟩
          refine hK.out _ _ (HK.out _ ((Ext.refl wr).drew)) (fun hHeld => ?_); clear hK K
          (try simp only [List.getElem_toArray, List.getElem_cons_succ, List.getElem_cons_zero, Act.put, List.setIfInBounds_toArray, List.set_cons_zero, List.set_cons_succ])
          refine wpAnyH_ready (rs := [5]) (by kernel_rfl) (by simp) ?_
          refine AllReadyH.cons (o := _) rfl (fun K hK => ?_) AllReadyH.nil
          go_simp
          refine (CF.out _).mono ?_; rintro e w' ⟨rfl, rfl⟩
          refine hK.out _ _ (HK.out _ ((Ext.refl wr).drew)) (fun hHeld => ?_); clear hK K
          (try simp only [List.getElem_toArray, List.getElem_cons_succ, List.getElem_cons_zero, Act.put, List.setIfInBounds_toArray, List.set_cons_zero, List.set_cons_succ])
          refine wpAnyH_take (i := 6) (oi := _) (v := ?_) rfl (by kernel_rfl) (by kernel_rfl) (by kernel_rfl) (fun _ _ _ h => h) (Or.inl ⟨by rfl, ?_⟩) (by assumption) ?_
          rotate_left
          · (intro w hSw; (try dsimp only at hSw); (try obtain ⟨hS0, hS1⟩ := hSw); go_simp; (try with_reducible rfl))
          (try simp only [List.getElem_toArray, List.getElem_cons_succ, List.getElem_cons_zero, Act.put, List.setIfInBounds_toArray, List.set_cons_zero, List.set_cons_succ])
          refine wpAnyH_take (i := 7) (oi := _) (v := ?_) rfl (by kernel_rfl) (by kernel_rfl) (by kernel_rfl) (fun _ _ _ h => h) (Or.inl ⟨by rfl, ?_⟩) (by assumption) ?_
          rotate_left
          · (intro w hSw; (try dsimp only at hSw); (try obtain ⟨hS0, hS1⟩ := hSw); go_simp; (try with_reducible rfl))
          (try simp only [List.getElem_toArray, List.getElem_cons_succ, List.getElem_cons_zero, Act.put, List.setIfInBounds_toArray, List.set_cons_zero, List.set_cons_succ])
          refine wpAnyH_take (i := 8) (oi := _) (v := ?_) rfl (by kernel_rfl) (by kernel_rfl) (by kernel_rfl) (fun _ _ _ h => h) (Or.inl ⟨by rfl, ?_⟩) (by assumption) ?_
          rotate_left
          · (intro w hSw; (try dsimp only at hSw); (try obtain ⟨hS0, hS1⟩ := hSw); go_simp; (try with_reducible rfl))
          (try simp only [List.getElem_toArray, List.getElem_cons_succ, List.getElem_cons_zero, Act.put, List.setIfInBounds_toArray, List.set_cons_zero, List.set_cons_succ])
          refine wpAnyH_take (i := 11) (oi := _) (v := ?_) rfl (by kernel_rfl) (by kernel_rfl) (by kernel_rfl) (fun _ _ _ h => h) (Or.inl ⟨by rfl, ?_⟩) (by assumption) ?_
          rotate_left
          · (intro w hSw; (try dsimp only at hSw); (try obtain ⟨hS0, hS1⟩ := hSw); go_simp; (try with_reducible rfl))
          (try simp only [List.getElem_toArray, List.getElem_cons_succ, List.getElem_cons_zero, Act.put, List.setIfInBounds_toArray, List.set_cons_zero, List.set_cons_succ])
          refine wpAnyH_ready (rs := [9]) (by kernel_rfl) (by simp) ?_
          refine AllReadyH.cons (o := _) rfl (fun K hK => ?_) AllReadyH.nil
          go_simp
          refine (implDualY sb cb l need dn _ (HL.out.ext (EX.trans ((Ext.refl wr).drew))) (by omega) hv Hdn.out).mono ?_; rintro e w6 ⟨s6, c6, rfl, R6, E6⟩
          refine hK.out _ _ (HK.out _ (((Ext.refl wr).drew).trans E6)) (fun hHeld => ?_); clear hK K
          (try simp only [List.getElem_toArray, List.getElem_cons_succ, List.getElem_cons_zero, Act.put, List.setIfInBounds_toArray, List.set_cons_zero, List.set_cons_succ])
          have C7 := implPivots s6 c6 l dn _ R6.lst (by omega)
          rw [HD2.out] at C7
          refine wpAnyH_ready (rs := [10]) (by kernel_rfl) (by simp) ?_
          refine AllReadyH.cons (o := _) rfl (fun K hK => ?_) AllReadyH.nil
          go_simp
          refine (C7).mono ?_; rintro e w7 ⟨s7, c7, rfl, R7, hb7⟩
          refine hK.out _ _ (HK.out _ ((((Ext.refl wr).drew).trans E6).trans (Ext.of hb7))) (fun hHeld => ?_); clear hK K
          (try simp only [List.getElem_toArray, List.getElem_cons_succ, List.getElem_cons_zero, Act.put, List.setIfInBounds_toArray, List.set_cons_zero, List.set_cons_succ])
          clear C7
          refine wpAnyH_ready (rs := [12]) (by kernel_rfl) (by simp) ?_
          refine AllReadyH.cons (o := _) rfl (fun K hK => ?_) AllReadyH.nil
          go_simp
          refine (eqInts_same s7 s2 c7 c2 V.length V _ R7.lst (HVX.out.ext ((((Ext.refl wr).drew).trans E6).trans (Ext.of hb7))) rfl (by omega)).mono ?_; rintro e w8 ⟨rfl, E8⟩
          refine hK.out _ _ (HK.out _ (((((Ext.refl wr).drew).trans E6).trans (Ext.of hb7)).trans E8)) (fun hHeld => ?_); clear hK K
          (try simp only [List.getElem_toArray, List.getElem_cons_succ, List.getElem_cons_zero, Act.put, List.setIfInBounds_toArray, List.set_cons_zero, List.set_cons_succ])
          refine wpAnyH_take (i := 13) (oi := _) (v := ?_) rfl (by kernel_rfl) (by kernel_rfl) (by kernel_rfl) (fun _ _ _ h => h) (Or.inl ⟨by rfl, ?_⟩) (by assumption) ?_
          rotate_left
          · (intro w hSw; (try dsimp only at hSw); (try obtain ⟨hS0, hS1⟩ := hSw); go_simp; (try with_reducible rfl))
          (try simp only [List.getElem_toArray, List.getElem_cons_succ, List.getElem_cons_zero, Act.put, List.setIfInBounds_toArray, List.set_cons_zero, List.set_cons_succ])
          refine wpAnyH_ready (rs := [14]) (by kernel_rfl) (by simp) ?_
          refine AllReadyH.cons (o := _) rfl (fun K hK => ?_) AllReadyH.nil
          go_simp
          refine hK.out _ _ (HK.out _ (((((Ext.refl wr).drew).trans E6).trans (Ext.of hb7)).trans E8)) (fun hHeld => ?_); clear hK K
          (try simp only [List.getElem_toArray, List.getElem_cons_succ, List.getElem_cons_zero, Act.put, List.setIfInBounds_toArray, List.set_cons_zero, List.set_cons_succ])
          refine wpAnyH_done (by kernel_rfl) ?_ _
          have E12 := ((((Ext.refl wr).drew).trans E6).trans (Ext.of hb7)).trans E8
          go_wp2
          go_ret
          exact ⟨rfl, E1.trans (EX.trans E12)⟩
    · have hv0 : ((V.length : Int) == 0) = true := by rw [beq_iff_eq]; have := HL0.out hs; omega
      clear hs HMo HDu HLn HL0
      obtain ⟨c0, c1, _, _⟩ := X4.two
      go_wp2_with fail; refine (CS.out _ (HL.out.ext E14)).mono ?_; rintro e w6 ⟨s6, c6, rfl, R6, hb6⟩
      have E6 := Ext.of hb6
      go_wp2_with fail; refine (eqInts_same s2 s6 c2 c6 V.length V _ (HV4.out.ext E6) R6.lst rfl (by omega)).mono ?_; rintro e w7 ⟨rfl, E7⟩
      go_wp2
      go_ret
      exact ⟨rfl, E1.trans (E14.trans (E6.trans E7))⟩
end Go.Proofs.Ytjdfdikifiljjab
