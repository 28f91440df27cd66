/- Chapter 4: the polynomial through shares: contracts of the program and of the model. -/
import Derived.Test.YtgmhodmgbhpdaabShr4
namespace Go.Proofs.Ytgmhodmgbhpdaab
open Go.ChangeShapes Go.WideShapes Go.ChangeAt Go.RowKit Go.Joins Go.Sort
set_option linter.unusedVariables false

theorem mulC {a b : Int} (h0 : 0 ≤ a) (h1 : a ≤ 501) (h2 : 0 ≤ b) (h3 : b ≤ 501) : 0 ≤ a * b ∧ a * b ≤ 251001 :=
  ⟨Int.mul_nonneg h0 h2, Int.mul_le_mul h1 h3 h2 (by omega)⟩
set_option maxHeartbeats 1600000 in
theorem implThr (sa : Option Addr) (cap n : Nat) (ll : List Sh) (w : World) (h : Sst w sa ll) (hn : ll.length = n) (hl : n ≤ 1000) (hg : gd ll) :
    Calls Try.prog 52 #[.slice sa n cap] w (RetP (isT ll) w) := by
  subst hn
  have H := hide h; clear h
  have HG := hide hg; clear hg
  have hmk := run_makeInts ll.length (by omega)
  have A0 := (Arr.new w (zeros ll.length)).keep ((Ext.refl _).alloc (.cells #[.int .i64 1] 3))
  have E0 := ((Ext.refl w).alloc (.cells (ints (zeros ll.length)) 3)).alloc (.cells #[.int .i64 1] 3)
  have R0 : Row (w.heap.size + 1) ((w.alloc (.cells (ints (zeros ll.length)) 3)).alloc (.cells #[.int .i64 1] 3)) (some ⟨w.heap.size + 1, 0, none⟩) 1 [1] := (Arr.newAt (w.alloc (.cells (ints (zeros ll.length)) 3)) (w.heap.size + 1) [1] (by simp)).row (Nat.le_refl _) (by simp)
  have HN0 := hide (nw_zero ll)
  go_enter Try.func52, Try.ntmps52
  go_wp2
  clear hmk
  go_loopw [4, 17] (fun b i wr => ∃ (k : Nat) (s2 : Option Addr) (c2 : Nat) (B m : List Int), k ≤ ll.length ∧ i = .int .i64 k ∧ b = .slice s2 B.length c2 ∧ Hid (nw ll k m B) ∧ Row (w.heap.size + 1) wr s2 c2 B ∧ Arr wr w.heap.size m ∧ Ext w wr) (fun _ i _ => ll.length - (intOf i).toNat)
  case atStart => exact ⟨0, _, 1, [1], _, Nat.zero_le _, rfl, rfl, HN0.out, R0, A0, E0⟩
  case round =>
    clear A0 E0 R0 HN0
    obtain ⟨k, s2, c2, B, m, hk, rfl, rfl, HN, hR, hA, hE⟩ := hrel
    by_cases hlt : k < ll.length
    · obtain ⟨g, off, rfl, hg2, q0, q1⟩ := (H.out.ext hE).at hlt
      have hbl : B.length ≤ k + 1 := by rw [HN.out.bl]; exact Nat.le_refl _
      have hbk : k + 1 ≤ B.length := by rw [HN.out.bl]; exact Nat.le_refl _
      have HML := hide HN.out.cl
      have HMR := hide HN.out.cr
      have HBR := hide HN.out.br
      have hx := HG.out.x k
      have hy := HG.out.y k
      have hp := pv_bd m (ll.getD k Sh.z).x
      have hq := pv_bd B (ll.getD k Sh.z).x
      have hq1 := nw_pos HN.out HG.out hlt
      have HST := hide (fun c2 b2 f => @nw_step ll k m B c2 b2 f HN.out HG.out hlt)
      have HBL := hide HN.out.bl
      clear HN
      obtain ⟨x, hxx⟩ : ∃ x, x = (ll.getD k Sh.z).x := ⟨_, rfl⟩; rw [← hxx] at q0 hx hp hq hq1 HST
      obtain ⟨y, hyy⟩ : ∃ y, y = (ll.getD k Sh.z).y := ⟨_, rfl⟩; rw [← hyy] at q1 hy HST
      clear hxx hyy
      have hwz := hA.lt
      have EA := hE.alloc (.cells #[.int .i64 x, .int .i64 y] 40)
      have hA1 := hA.keep ((Ext.refl wr).alloc (.cells #[.int .i64 x, .int .i64 y] 40))
      have hR1 := hR.ext ((Ext.refl wr).alloc (.cells #[.int .i64 x, .int .i64 y] 40))
      have X1 := Box.new wr #[.int .i64 x, .int .i64 y] 40
      have HV1 := hide (fun w2 (e : Ext (wr.alloc (.cells #[.int .i64 x, .int .i64 y] 40)) w2) => implVal (some ⟨w.heap.size, 0, none⟩) ll.length ll.length m x w2 (hA1.lst.ext e) HML.out (by omega) HMR.out hx.1 hx.2)
      have HV2 := hide (fun w2 (e : Ext (wr.alloc (.cells #[.int .i64 x, .int .i64 y] 40)) w2) => implVal s2 c2 B.length B x w2 (hR1.lst.ext e) rfl (by omega) HBR.out hx.1 hx.2)
      obtain ⟨p, hpp⟩ : ∃ p, p = pv m x := ⟨_, rfl⟩; rw [← hpp] at hp HST HV1
      obtain ⟨q, hqq⟩ : ∃ q, q = pv B x := ⟨_, rfl⟩; rw [← hqq] at hq hq1 HST HV2
      have HIq := hide (show invR q = iv q from invR_yes hq1 hq.2)
      have hi := iv_bd q
      obtain ⟨iq, hiq⟩ : ∃ iq, iq = iv q := ⟨_, rfl⟩; rw [← hiq] at hi HST HIq
      clear hpp hqq hiq
      have HV3 := hide (fun w2 => implInv q w2)
      rw [HIq.out] at HV3
      obtain ⟨r0, r1⟩ := X1.reads (Ext.refl _)
      have hs1 : IntKind.i64.wrap (y + 251) = y + 251 := IntWalk.i64_in _ (by omega)
      have hs2 : IntKind.i64.wrap (y + 251 - p) = y + 251 - p := IntWalk.i64_in _ (by omega)
      have hb := mulC (show 0 ≤ y + 251 - p by omega) (by omega) hi.1 (show iq ≤ 501 by omega)
      go_wp2
      refine wp_region_quiet_below (by kernel_rfl) (by kernel_rfl) ?_
      repeat (go_big_quiet_step ((first | (go_at_call 53; exact Same.quiet (HV1.out _ (below_regrown _ _ _))))))
      refine wpQuiet_nil ?_; intro w6 hq; have E6 := Ext.class hq; clear hq
      clear r0 r1 hs1 hs2
      have hX6 := X1.keep E6
      obtain ⟨y0, y1, _, _⟩ := hX6.two
      have hR6 := hR1.ext E6
      have hA6 := hA1.keep E6
      have hE6 := EA.trans E6
      go_wp2_with fail; refine (HV2.out _ E6).mono ?_; rintro e w' ⟨rfl, rfl⟩
      go_wp2_with fail; refine (HV3.out _).mono ?_; rintro e w' ⟨rfl, rfl⟩
      clear HV1 HV2 HV3 hR1 hA1 hR hA hE EA X1 y0 y1
      go_wp2
      obtain ⟨f, hf⟩ : ∃ f, f = (y + 251 - p) * iq % 251 := ⟨_, rfl⟩; rw [← hf] at HST ⊢
      have hf2 : 0 ≤ f ∧ f ≤ 250 := by omega
      clear hf
      go_loopw [39] (fun i wz => ∃ (j : Nat) (m2 : List Int), j ≤ B.length ∧ i = .int .i64 j ∧ Hid (m2.length = ll.length) ∧ Hid (rg m2) ∧ Hid (accm m2 m B f j) ∧ Arr wz w.heap.size m2 ∧ Row (w.heap.size + 1) wz s2 c2 B ∧ Box wz wr.heap.size #[.int .i64 x, .int .i64 y] 40 ∧ Ext w wz) (fun i _ => B.length - (intOf i).toNat)
      case atStart => exact ⟨0, m, Nat.zero_le _, rfl, HML.out, HMR.out, acc_zero m B f, hA6, hR6, hX6, hE6⟩
      case round =>
        clear hA6 hR6 hX6 hE6
        obtain ⟨j, m2, hj, rfl, HL2, HG2, HAC, hA, hR, hX, hE⟩ := hrel
        by_cases hlt2 : j < B.length
        · obtain ⟨gb, ob, es, hgb, b0⟩ := hR.lst.at hlt2
          subst es
          have d0 := hA.cell (j := j) (by rw [HL2.out]; omega)
          have f0 := hA.free j
          have hcb := rg_at HBR.out j
          have hcy := rg_at HG2.out j
          have HS := hide (acc_step HAC.out hlt2 (by rw [HL2.out]; omega))
          have HL3 := hide (fun (u : Int) => (show (m2.set j u).length = ll.length by rw [List.length_set]; exact HL2.out))
          have HG3 := hide (fun (u : Int) (u0 : 0 ≤ u) (u1 : u ≤ 250) => rg_set HG2.out j u0 u1)
          obtain ⟨b, hbb⟩ : ∃ b, b = B.getD j 0 := ⟨_, rfl⟩; rw [← hbb] at b0 hcb HS
          obtain ⟨y2, hyy⟩ : ∃ y2, y2 = m2.getD j 0 := ⟨_, rfl⟩; rw [← hyy] at d0 hcy HS
          clear hbb hyy
          have hfb := mulC hf2.1 (show f ≤ 501 by omega) hcb.1 (show b ≤ 501 by omega)
          go_wp2
          go_roundw
          case rel => exact ⟨j + 1, _, by omega, by go_num, HL3.out _, HG3.out _ (by omega) (by omega), HS, hA.set j _, hR.put (by omega) _ _, hX.put (by have := hwz; omega) _ _, hE.setCell (Nat.le_refl _) _⟩
          case measure => (first | (simp [intOf]; done) | (simp [intOf]; omega))
        · obtain rfl : j = B.length := by omega
          obtain ⟨y0, y1, _, _⟩ := hX.two
          have HT := hide (HST.out m2)
          go_wp2_with fail; refine (implWZ s2 c2 B.length B x _ hR.lst rfl (by omega) HBR.out hx.1 hx.2).mono ?_; rintro e w8 ⟨Q, sq, cq, rfl, HQ, Rq, E8⟩
          have HN2 := hide (HT.out Q f rfl HL2.out HG2.out (fun t => acc_end HAC.out t) (by rw [HQ.1, HBL.out]) HQ.2.1 HQ.2.2)
          have hA8 := hA.keep E8
          have hE8 := hE.trans E8
          have hz8 := hE.size
          have hlz := hA.lt
          have R8 := Rq.le (base' := w.heap.size + 1) (by omega)
          clear HQ Rq
          go_wp2
          go_roundw
          case rel => exact ⟨k + 1, sq, cq, Q, m2, by omega, by go_num, rfl, HN2, R8, hA8, hE8⟩
          case measure => (first | (simp [intOf]; done) | (simp [intOf]; omega))
    · obtain rfl : k = ll.length := by omega
      have HF := hide (nw_end HN.out)
      have HL := hide HN.out.cl
      go_wp2
      go_ret
      have R := hA.row (base := w.heap.size) (Nat.le_refl _) (by rw [HL.out]; omega)
      rw [HL.out] at R
      exact ⟨m, some ⟨w.heap.size, 0, none⟩, ll.length, by rw [HL.out]; rfl, HF.out, R, hE⟩
set_option maxHeartbeats 1600000 in
theorem specThr (sa : Option Addr) (cap n : Nat) (ll : List Sh) (w : World) (h : Sst w sa ll) (hn : ll.length = n) (hl : n ≤ 1000) (hg : gd ll) :
    Calls Try.prog 75 #[.slice sa n cap] w (RetP (isT ll) w) := by
  subst hn
  have H := hide h; clear h
  have HG := hide hg; clear hg
  have hmk := run_makeInts ll.length (by omega)
  have A0 := Arr.new w (zeros ll.length)
  have E0 := (Ext.refl w).alloc (.cells (ints (zeros ll.length)) 3)
  have HN0 := hide (lgo_zero ll)
  go_enter Try.func75, Try.ntmps75
  go_wp2
  clear hmk
  go_loopw [4] (fun i wr => ∃ (k : Nat) (m : List Int), k ≤ ll.length ∧ i = .int .i64 k ∧ Hid (lgo ll k m) ∧ Arr wr w.heap.size m ∧ Ext w wr) (fun i _ => ll.length - (intOf i).toNat)
  case atStart => exact ⟨0, _, Nat.zero_le _, rfl, HN0.out, A0, E0⟩
  case round =>
    clear A0 E0 HN0
    obtain ⟨k, m, hk, rfl, HN, hA, hE⟩ := hrel
    by_cases hlt : k < ll.length
    · have hki : (k : Int) < (ll.length : Int) := by omega
      have HX := hide (HG.out.x k)
      have HY := hide (HG.out.y k)
      have HML := hide HN.out.ol
      have HMR := hide HN.out.orr
      have HST := hide (fun o2 p d f hp => @lgo_step ll k m o2 p d f HN.out hp hlt)
      have HI0 := hide (lgi_zero ll k)
      have HISK := hide (fun p d (h : lgi ll k k p d) => lgi_skip h)
      have HIS := hide (fun j p p2 d d2 (h : lgi ll k j p d) (hj : j < ll.length) (e : j ≠ k) => @lgi_step ll k j p p2 d d2 h HG.out hlt hj e)
      have hwz := hA.lt
      have RB : Row (w.heap.size + 1) (wr.alloc (.cells #[.int .i64 1] 3)) (some ⟨wr.heap.size, 0, none⟩) 1 [1] := (Arr.newAt wr wr.heap.size [1] rfl).row (by omega) (by simp)
      have hA1 := hA.keep ((Ext.refl wr).alloc (.cells #[.int .i64 1] 3))
      have hE1 := hE.alloc (.cells #[.int .i64 1] 3)
      clear HN hA hE
      go_wp2
      go_loopw [5, 6, 7] (fun pl dn i wz => ∃ (j : Nat) (s2 : Option Addr) (c2 : Nat) (B : List Int) (d : Int), j ≤ ll.length ∧ i = .int .i64 j ∧ pl = .slice s2 B.length c2 ∧ dn = .int .i64 d ∧ 1 ≤ d ∧ d ≤ 250 ∧ B.length ≤ j + 1 ∧ Hid (lgi ll k j B d) ∧ Row (w.heap.size + 1) wz s2 c2 B ∧ Arr wz w.heap.size m ∧ Ext w wz) (fun _ _ i _ => ll.length - (intOf i).toNat)
      case atStart => exact ⟨0, _, 1, [1], 1, Nat.zero_le _, rfl, rfl, rfl, by omega, by omega, by simp, HI0.out, RB, hA1, hE1⟩
      case round =>
        clear RB hA1 hE1 HI0
        obtain ⟨j, s2, c2, B, d, hj, rfl, rfl, rfl, d0, d1, hbj, HI, hR, hA, hE⟩ := hrel
        by_cases hlt2 : j < ll.length
        · have hji : (j : Int) < (ll.length : Int) := by omega
          obtain ⟨g, off, rfl, hg2, q0, q1⟩ := (H.out.ext hE).at hlt2
          by_cases hjk : j = k
          · have HI2 := hide (show lgi ll k (j + 1) B d by have h := HI.out; rw [hjk] at h ⊢; exact HISK.out B d h)
            have hd : ((j : Int) != (k : Int)) = false := by rw [hjk]; simp
            have HJK := hide hjk; clear hjk
            clear q0 q1
            go_wp2
            go_roundw
            case rel => exact ⟨j + 1, s2, c2, B, d, by omega, by go_num, rfl, rfl, d0, d1, by omega, HI2, hR, hA, hE⟩
            case measure => (first | (simp [intOf]; done) | (simp [intOf]; omega))
          · have hd : ((j : Int) != (k : Int)) = true := by rw [bne_iff_ne]; omega
            have hx := HG.out.x j
            have hxk := HX.out
            have HIT := hide (fun p2 d2 => HIS.out j B p2 d d2 HI.out hlt2 hjk)
            have HBR := hide HI.out.pr
            obtain ⟨g3, off3, e3, hg3, p0, p1⟩ := H.out.at hlt
            cases e3
            have HP0 := hide (fun wz2 (e : Ext w wz2) => (e.cell (o := off + k * 2) hg3).trans p0)
            have HQ0 := hide (fun wz2 (e : Ext wr wz2) => (e.cell (o := off + j * 2) hg2).trans q0)
            obtain ⟨x, hxx⟩ : ∃ x, x = (ll.getD j Sh.z).x := ⟨_, rfl⟩; rw [← hxx] at q0 hx HIT HQ0
            obtain ⟨xk, hxxk⟩ : ∃ xk, xk = (ll.getD k Sh.z).x := ⟨_, rfl⟩; rw [← hxxk] at p0 hxk HIT HP0
            clear hxx hxxk hjk q1 p0 p1
            go_wp2_with fail; refine (specTimes s2 c2 B.length B x _ hR.lst rfl (by omega) HBR.out hx.1 hx.2).mono ?_; rintro e w8 ⟨Q, sq, cq, rfl, HQ, Rq, E8⟩
            have hE8 := hE.trans E8
            have hA8 := hA.keep E8
            have hz8 := hE.size
            have hlz := hA.lt
            have R8 := Rq.le (base' := w.heap.size + 1) (by omega)
            have hQl : Q.length ≤ j + 1 + 1 := by rw [HQ.1]; omega
            have HQQ := hide HQ
            clear HQ Rq q0
            have q0 := HQ0.out _ E8
            have p0 := HP0.out _ hE8
            have r0 := cell_regrown q0
            have r1 := cell_regrown p0
            have hmm := mulC (show 0 ≤ d by omega) (show d ≤ 501 by omega) (show 0 ≤ xk - x + 251 by omega) (by omega)
            obtain ⟨D, hD⟩ : ∃ D, D = d * (xk - x + 251) % 251 := ⟨_, rfl⟩
            have HI2 := hide (HIT.out Q D HQQ.out.1 HQQ.out.2.1 HQQ.out.2.2 hD)
            have hs1 : IntKind.i64.wrap (xk - x) = xk - x := IntWalk.i64_in _ (by omega)
            have hs2 : IntKind.i64.wrap (xk - x + 251) = xk - x + 251 := IntWalk.i64_in _ (by omega)
            have hs3 : IntKind.i64.wrap (d * (xk - x + 251)) = d * (xk - x + 251) := IntWalk.i64_in _ (by omega)
            have hs4 : (d * (xk - x + 251)).tmod 251 = D := by rw [Int.tmod_eq_emod_of_nonneg (by omega)]; exact hD.symm
            have hs5 : d * (xk - x + 251) % 251 = D := hD.symm
            have hD0 := HI2.out.d0
            have hD1 := HI2.out.d1
            clear hD
            go_wp2
            refine wp_region_quiet_below (by kernel_rfl) (by kernel_rfl) ?_
            repeat (go_big_quiet_step (fail))
            refine wpQuiet_nil ?_; intro w9 hq; have E9 := Ext.class hq; clear hq
            clear hs1 hs2 hs3 hs4 hs5 r0 r1
            go_wp2
            go_roundw
            case rel => exact ⟨j + 1, sq, cq, Q, D, by omega, by go_num, rfl, rfl, hD0, hD1, hQl, HI2, R8.ext E9, hA8.keep E9, hE8.trans E9⟩
            case measure => (first | (simp [intOf]; done) | (simp [intOf]; omega))
        · have hji : decide ((j : Int) < (ll.length : Int)) = false := decide_eq_false (by omega)
          have HIF := hide (show lgi ll k ll.length B d by have := HI.out; rwa [show j = ll.length by omega] at this)
          have HBR := hide HI.out.pr
          have HBL := hide (show B.length = ll.length by have := HIF.out.pl; rw [if_neg (by omega)] at this; exact this)
          have hbl : B.length ≤ ll.length := by rw [HBL.out]; exact Nat.le_refl _
          obtain ⟨g3, off3, rfl, hg3, p0, p1⟩ := (H.out.ext hE).at hlt
          have hy := HY.out
          have HT := hide (fun o2 f => HST.out o2 B d f HIF.out)
          have hi := iv_bd d
          have HINV := hide (fun w2 => specInverse d w2 (by omega) d1)
          obtain ⟨y, hyy⟩ : ∃ y, y = (ll.getD k Sh.z).y := ⟨_, rfl⟩; rw [← hyy] at p1 hy HT
          obtain ⟨iq, hiq⟩ : ∃ iq, iq = iv d := ⟨_, rfl⟩; rw [← hiq] at hi HT HINV
          clear hyy hiq p0
          have hmm := mulC hy.1 (show y ≤ 501 by omega) hi.1 (show iq ≤ 501 by omega)
          obtain ⟨f, hf⟩ : ∃ f, f = y * iq % 251 := ⟨_, rfl⟩
          rw [← hf] at HT
          have hf2 : 0 ≤ f ∧ f ≤ 250 := by omega
          have r1 := cell_regrown p1
          have hs3 : IntKind.i64.wrap (y * iq) = y * iq := IntWalk.i64_in _ (by omega)
          have hs4 : (y * iq).tmod 251 = f := by rw [Int.tmod_eq_emod_of_nonneg (by omega)]; exact hf.symm
          have hs5 : y * iq % 251 = f := hf.symm
          clear hf
          go_wp2
          refine wp_region_quiet_below (by kernel_rfl) (by kernel_rfl) ?_
          repeat (go_big_quiet_step ((first | (go_at_call 84; exact Same.quiet (HINV.out _)))))
          refine wpQuiet_nil ?_; intro w9 hq; have E9 := Ext.class hq; clear hq
          clear hs3 hs4 hs5 r1 p1
          have hA9 := hA.keep E9
          have hR9 := hR.ext E9
          have hE9 := hE.trans E9
          clear hA hR hE E9
          go_wp2
          go_loopw [9] (fun i wz => ∃ (t : Nat) (m2 : List Int), t ≤ B.length ∧ i = .int .i64 t ∧ Hid (m2.length = ll.length) ∧ Hid (rg m2) ∧ Hid (accm m2 m B f t) ∧ Arr wz w.heap.size m2 ∧ Row (w.heap.size + 1) wz s2 c2 B ∧ Ext w wz) (fun i _ => B.length - (intOf i).toNat)
          case atStart => exact ⟨0, m, Nat.zero_le _, rfl, HML.out, HMR.out, acc_zero m B f, hA9, hR9, hE9⟩
          case round =>
            clear hA9 hR9 hE9
            obtain ⟨t, m2, ht, rfl, HL2, HG2, HAC, hA, hR, hE⟩ := hrel
            by_cases hlt3 : t < B.length
            · have hti : (t : Int) < (B.length : Int) := by omega
              have hti2 : (t : Int) < (ll.length : Int) := by omega
              obtain ⟨gb, ob, es, hgb, b0⟩ := hR.lst.at hlt3
              subst es
              have d0 := hA.cell (j := t) (by rw [HL2.out]; omega)
              have f0 := hA.free t
              have hcb := rg_at HBR.out t
              have hcy := rg_at HG2.out t
              have HS := hide (acc_step HAC.out hlt3 (by rw [HL2.out]; omega))
              have HL3 := hide (fun (u : Int) => (show (m2.set t u).length = ll.length by rw [List.length_set]; exact HL2.out))
              have HG3 := hide (fun (u : Int) (u0 : 0 ≤ u) (u1 : u ≤ 250) => rg_set HG2.out t u0 u1)
              obtain ⟨b, hbb⟩ : ∃ b, b = B.getD t 0 := ⟨_, rfl⟩; rw [← hbb] at b0 hcb HS
              obtain ⟨y2, hyy⟩ : ∃ y2, y2 = m2.getD t 0 := ⟨_, rfl⟩; rw [← hyy] at d0 hcy HS
              clear hbb hyy
              have hfb := mulC hf2.1 (show f ≤ 501 by omega) hcb.1 (show b ≤ 501 by omega)
              obtain ⟨v, hv⟩ : ∃ v, v = (y2 + f * b) % 251 := ⟨_, rfl⟩
              rw [← hv] at HS
              have hv2 : 0 ≤ v ∧ v ≤ 250 := by omega
              have hs1 : IntKind.i64.wrap (f * b) = f * b := IntWalk.i64_in _ (by omega)
              have hs2 : IntKind.i64.wrap (y2 + f * b) = y2 + f * b := IntWalk.i64_in _ (by omega)
              have hs3 : (y2 + f * b).tmod 251 = v := by rw [Int.tmod_eq_emod_of_nonneg (by omega)]; exact hv.symm
              have hs4 : (y2 + f * b) % 251 = v := hv.symm
              clear hv
              go_wp2
              refine wp_region_still_tail 15 (by kernel_rfl) (by kernel_rfl) ?_
              simp only [List.take_succ_cons, List.take_zero, List.drop_succ_cons, List.drop_zero]
              repeat still_step
              refine wpStill_nil ?_
              change wpList _ _ _ _ _ (World.drew _)
              clear hs1 hs2 hs3 hs4
              go_wp2
              go_roundw
              case rel => exact ⟨t + 1, _, by omega, by go_num, HL3.out v, HG3.out v hv2.1 hv2.2, HS, (hA.set t v).drew, (hR.put (by omega) _ _).ext (Ext.refl _).drew, (hE.setCell (Nat.le_refl _) _).drew⟩
              case measure => (first | (simp [intOf]; done) | (simp [intOf]; omega))
            · have htl : t = B.length := by omega
              have hti : decide ((t : Int) < (B.length : Int)) = false := decide_eq_false (by omega)
              have HN2 := hide (HT.out m2 f rfl HL2.out HG2.out (fun u => acc_end (by rw [← htl]; exact HAC.out) u))
              clear htl
              go_wp2
              go_roundw
              case rel => exact ⟨k + 1, m2, by omega, by go_num, HN2, hA, hE⟩
              case measure => (first | (simp [intOf]; done) | (simp [intOf]; omega))
    · obtain rfl : k = ll.length := by omega
      have HF := hide (lgo_end HN.out)
      have HL := hide HN.out.ol
      go_wp2
      go_ret
      have R := hA.row (base := w.heap.size) (Nat.le_refl _) (by rw [HL.out]; omega)
      rw [HL.out] at R
      exact ⟨m, some ⟨w.heap.size, 0, none⟩, ll.length, by rw [HL.out]; rfl, HF.out, R, hE⟩
end Go.Proofs.Ytgmhodmgbhpdaab
