/- Chapter 3: bids of nothing in plain numbers, and the walk of their law, at drawn arguments. -/
import Derived.Test.YthbkkbcbhhmhoabLawB8
namespace Go.Proofs.Ythbkkbcbhhmhoab
open Go.ChangeShapes Go.WideShapes Go.ChangeAt Go.RowKit Go.Joins Go.Sort
set_option linter.unusedVariables false

/-- rows of bids of nothing -/
def zrs (n c : Nat) : List (List Int) := List.replicate c (zeros n)
theorem zrs_len (n c : Nat) : (zrs n c).length = c := List.length_replicate
theorem zrs_at (n c i : Nat) (h : i < c) : (zrs n c).getD i [] = zeros n := by
  unfold zrs; rw [List.getD_eq_getElem?_getD, List.getElem?_replicate, if_pos h]; rfl
theorem zrs_succ (n c : Nat) : zrs n c ++ [zeros n] = zrs n (c + 1) := by
  unfold zrs; rw [List.replicate_succ']
theorem numsB_succ (n : Nat) : numsO n ++ [(n : Int)] = numsO (n + 1) := by simp [numsO, List.range_succ]
theorem numsB_mem (c k : Nat) : inD (numsO c) k = decide (k < c) := by
  unfold inD
  rw [Bool.eq_iff_iff, decide_eq_true_eq, decide_eq_true_eq]
  constructor
  · intro h
    obtain ⟨i, hi, e⟩ := mem_getD h
    rw [numsO_len] at hi
    rw [numsO_at hi] at e
    omega
  · intro h
    have := getD_mem (l := numsO c) (k := k) (by rw [numsO_len]; exact h)
    rwa [numsO_at h] at this
theorem zrs_ok {n : Nat} {p : Int} (h1 : 1 ≤ n) (h2 : n ≤ 12) (h3 : 0 ≤ p) (h4 : p ≤ 10000) : tOk (zrs n n) p := by
  refine ⟨by rw [zrs_len]; omega, fun i hi => ?_⟩
  rw [zrs_len] at hi
  have hm : 0 ≤ (n : Int) * p := Int.mul_nonneg (by omega) h3
  refine ⟨by rw [zrs_at _ _ _ hi, zrs_len, zeros_len], ?_⟩
  rw [zrs_at _ _ _ hi]
  refine ⟨⟨by rw [zeros_len]; omega, h3, h4⟩, fun x hx => ?_⟩
  rw [zeros_len]
  have : x = 0 := List.eq_of_mem_replicate hx
  omega
theorem win_zero (n c : Nat) : ∀ k, win (zeros n) (inD (numsO c)) k = if k ≤ c then -1 else (c : Int) := by
  intro k
  induction k with
  | zero => rw [if_pos (Nat.zero_le _)]; rfl
  | succ k ih =>
    by_cases h : k < c
    · rw [win_no (fun h2 => by have := h2.1; rw [numsB_mem, decide_eq_true h] at this; cases this), ih, if_pos (by omega), if_pos (by omega)]
    · by_cases e : k = c
      · subst e
        rw [win_yes (by rw [numsB_mem, decide_eq_false h]) (.inl (by rw [ih, if_pos (Nat.le_refl _)]; omega)), if_neg (by omega)]
      · rw [win_no (fun h2 => by
          have := h2.2
          rw [ih, if_neg (by omega), zeros_at, zeros_at] at this
          omega), ih, if_neg (by omega), if_neg (by omega)]
theorem bo_zero (n : Nat) : ∀ c, c ≤ n → bo (zrs n n) c = numsO c := by
  intro c
  induction c with
  | zero => intro _; rfl
  | succ c ih =>
    intro h
    show bo (zrs n n) c ++ [win ((zrs n n).getD c []) (inD (bo (zrs n n) c)) (zrs n n).length] = _
    rw [ih (by omega), zrs_at _ _ _ (by omega), zrs_len, win_zero, if_neg (by omega), numsB_succ]
theorem boL_zero {n : Nat} {p : Int} (h : tOk (zrs n n) p) : boL (zrs n n) p = numsO n := by
  rw [boL_yes h, zrs_len, bo_zero n n (Nat.le_refl _)]
theorem numsB_vo {n : Nat} (h1 : 1 ≤ n) (h2 : n ≤ 12) : vo (numsO n) = true := by
  refine vo_iff.2 ⟨by rw [numsO_len]; omega, vmB_iff.2 ⟨fun x hx => ?_, ?_⟩⟩
  · obtain ⟨i, hi, e⟩ := mem_getD hx
    rw [numsO_len] at hi ⊢
    rw [numsO_at hi] at e
    omega
  · rw [← mems_nums (n := n) (by omega)]; exact filK_nd _ _
theorem sgK_part (L : List Int) (h : ∀ i, i < L.length → 0 ≤ L.getD i 0) : ∀ k, k ≤ L.length → 0 ≤ sgK L k ∧ ∀ i, i < k → L.getD i 0 ≤ sgK L k := by
  intro k
  induction k with
  | zero => intro _; exact ⟨Int.le_refl _, fun i hi => absurd hi (Nat.not_lt_zero _)⟩
  | succ k ih =>
    intro hk
    obtain ⟨h1, h2⟩ := ih (by omega)
    have h3 := h k (by omega)
    refine ⟨?_, fun i hi => ?_⟩
    · show 0 ≤ sgK L k + L.getD k 0; omega
    · show L.getD i 0 ≤ sgK L k + L.getD k 0
      by_cases e : i = k
      · rw [e]; omega
      · have := h2 i (by omega); omega
theorem bnL_zero {n : Nat} {p : Int} (h1 : 1 ≤ n) (h2 : n ≤ 12) (h3 : 0 ≤ p) (h4 : p ≤ 10000) : bnL (zrs n n) p = netL (numsO n) p n := by
  have h := zrs_ok h1 h2 h3 h4
  have hlen : (bnL (zrs n n) p).length = n := by rw [bnL_yes h, bnP_len, zrs_len]
  have hnok : netOk (numsO n) p n := ⟨numsB_vo h1 h2, ⟨h3, h4⟩, by omega, by rw [numsO_len]; exact Int.le_refl _⟩
  have hge : ∀ i, i < (bnL (zrs n n) p).length → 0 ≤ (bnL (zrs n n) p).getD i 0 := by
    intro i hi
    rw [hlen] at hi
    refine bnL_free h (by rw [zrs_len]; exact hi) fun k hk => ?_
    rw [zrs_len] at hk
    rw [zrs_at _ _ _ hk, zeros_at]
    exact Int.le_refl _
  have hs := bnL_sum h
  rw [zrs_len] at hs
  have hp := (sgK_part _ hge n (by omega)).2
  refine getD_ext (by rw [hlen, netL_yes hnok, netT_len, numsO_len]) fun j hj => ?_
  have hj2 := hge j hj
  rw [hlen] at hj
  have h5 := hp j hj
  rw [net_all hnok (.inr (by rw [numsO_len])) j (by rw [numsO_len]; exact hj)]
  omega
theorem len_snocZ9 (o : List (List Int)) (x : List Int) : o.length + 1 = (o ++ [x]).length := by simp
theorem len_snocN9 (o : List Int) (x : Int) : o.length + 1 = (o ++ [x]).length := by simp
set_option maxHeartbeats 1000000 in
theorem lawNumsB (n : Nat) (w : World) (hn : n ≤ 2000000) : Calls Try.prog 49 #[.int .i64 n] w (RetList (numsO n) w) := by
  have HNS := hide (fun c => numsB_succ c)
  have HNL := hide (fun c => numsO_len c)
  go_enter Try.func49, Try.ntmps49
  go_wp2
  go_loopw [3, 4] (fun v i wr => ∃ (c : Nat) (s2 : Option Addr) (c2 : Nat) (o : List Int), c ≤ n ∧ i = .int .i64 c ∧ v = .slice s2 o.length c2 ∧ Hid (o = numsO c) ∧ Row w.heap.size wr s2 c2 o ∧ Ext w wr) (fun _ i _ => n - (intOf i).toNat)
  case atStart => exact ⟨0, _, 0, [], Nat.zero_le _, rfl, rfl, rfl, Row.made _ _ (Nat.le_refl _), (Ext.refl _).alloc _⟩
  case round =>
    obtain ⟨c, s2, c2, o, hc, rfl, rfl, HO, hr, hE⟩ := hrel
    have ho : o.length ≤ c := by rw [HO.out, HNL.out]; exact Nat.le_refl _
    by_cases hlt : c < n
    · have HS := hide (show o ++ [(c : Int)] = numsO (c + 1) by rw [HO.out]; exact HNS.out c)
      go_wp2_with (first | (at_builtin; refine append_int rfl (.tmp 11) (.tmp 13) rfl w.heap.size wr s2 c2 o (c : Int) _ rfl rfl hr (by omega) hE.size ?_; intro g3 cap3 w3 R3 hb3))
      have E3 := Ext.of (Below.trans hE hb3)
      clear hb3
      go_wp2
      go_roundw
      case rel => exact ⟨c + 1, _, _, _, by omega, by go_num, by rw [len_snocN9 o (c : Int)], HS, R3, E3⟩
      case measure => simp [intOf]; omega
    · obtain rfl : c = n := by omega
      have HG := hide (show numsO c = o from HO.out.symm)
      go_wp2
      go_ret
      exact ⟨s2, c2, by rw [HG.out]; rfl, by rw [HG.out]; exact hr, hE⟩
set_option maxRecDepth 100000 in
set_option maxHeartbeats 1000000 in
theorem walkFnBidNetsNone (w : World) (sa : Option Addr) (len cap : Nat) (h : Code w sa len cap) (hl : len ≤ maxLen) :
    Calls Try.prog 15 #[.slice sa len cap] w fun e w' => e = .returned (.bool true) ∧ Below w.heap.size w w' := by
  have hl' := hl
  unfold maxLen at hl'
  by_cases hbig : 1048576 < len
  · clear h hl
    go_enter Try.func15, Try.ntmps15
    go_wp2
    go_ret
    exact ⟨rfl, Below.refl _ _⟩
  · go_enter Try.func15, Try.ntmps15
    go_wp2_with fail
    refine (dDrawBidNets sa len cap w h hl).mono ?_
    rintro e w1 ⟨sb, cb, ll, hs, p, rfl, hM, l7, hrl, p0, p1, E1⟩
    have HM := hide hM.mst
    have HR := hide (show ∀ i, i < ll.length → (ll.getD i []).length ≤ 2000000 from fun i hi => Nat.le_trans (hrl i hi) (by omega))
    clear h hl hl' hbig hM hrl
    have HP1 := hide (fun w2 (e : Ext w1 w2) => implBN sb cb ll p w2 (HM.out.ext e) (by omega) HR.out)
    have HP2 := hide (fun w2 (e : Ext w1 w2) => specBN sb cb ll p w2 (HM.out.ext e) (by omega) HR.out)
    have hLl := bnL_len ll p
    have hEQ := fun sa ca sb cb w2 ha hb => equalInts_any sa sb (bnL ll p) (bnL ll p) ca cb w2 ha hb (by omega) (by omega)
    rw [decide_eq_true (rfl : bnL ll p = bnL ll p)] at hEQ
    have HEQ := hide hEQ
    clear hEQ
    by_cases hok : tOk ll p
    · have h1 := hok.1.1
      have hlen : (bnL ll p).length = ll.length := by rw [bnL_yes hok, bnP_len]
      obtain ⟨n, hn⟩ : ∃ n, n = ll.length := ⟨_, rfl⟩
      have hzo : tOk (zrs n n) p := zrs_ok (by omega) (by omega) p0 (by omega)
      have hZ1 := boL_zero hzo
      have hZ2 := bnL_zero (n := n) (p := p) (by omega) (by omega) p0 (by omega)
      have HBO := hide (fun s c w2 (h : Mst w2 s (zrs n n)) => implBO s c (zrs n n) p w2 h (by rw [zrs_len]; omega) (fun i hi => by rw [zrs_len] at hi; rw [zrs_at _ _ _ hi, zeros_len]; omega))
      have HBN := hide (fun s c w2 (h : Mst w2 s (zrs n n)) => implBN s c (zrs n n) p w2 h (by rw [zrs_len]; omega) (fun i hi => by rw [zrs_len] at hi; rw [zrs_at _ _ _ hi, zeros_len]; omega))
      rw [hZ1, zrs_len] at HBO
      rw [hZ2, zrs_len] at HBN
      have HNU := hide (fun w2 => lawNumsB n w2 (by omega))
      have HNE := hide (fun s c w2 (h : Lst w2 s (numsO n)) (hc : (numsO n).length ≤ c) => implNet s c (numsO n) p ((numsO n).length : Int) w2 h (by rw [numsO_len]; omega) hc)
      have hZ3 : netL (numsO n) p ((numsO n).length : Int) = netL (numsO n) p n := by rw [numsO_len]
      rw [hZ3] at HNE
      have hn7 : n ≤ 7 := by omega
      have hNl := numsO_len n
      have hTl := netL_len (numsO n) p n
      have hEN := fun sa ca sb cb w2 ha hb => equalInts_any sa sb (numsO n) (numsO n) ca cb w2 ha hb (by omega) (by omega)
      rw [decide_eq_true (rfl : numsO n = numsO n)] at hEN
      have hET := fun sa ca sb cb w2 ha hb => equalInts_any sa sb (netL (numsO n) p n) (netL (numsO n) p n) ca cb w2 ha hb (by omega) (by omega)
      rw [decide_eq_true (rfl : netL (numsO n) p n = netL (numsO n) p n)] at hET
      have HEN := hide hEN
      have HET := hide hET
      clear hEN hET
      have HZS := hide (fun c => zrs_succ n c)
      have HZL := hide (fun c => zrs_len n c)
      have HZ0 := hide (show [] = zrs n 0 from rfl)
      have hzl := zeros_len n
      have HMK := hide (run_makeInts n (show n ≤ 2000000 by omega))
      obtain ⟨L, hL⟩ : ∃ L, L = bnL ll p := ⟨_, rfl⟩; rw [← hL] at HP1 HP2 HEQ hlen hLl
      obtain ⟨T, hT⟩ : ∃ T, T = netL (numsO n) p n := ⟨_, rfl⟩; rw [← hT] at HBN HNE HET hTl
      obtain ⟨N, hN⟩ : ∃ N, N = numsO n := ⟨_, rfl⟩; rw [← hN] at HBO HNU HNE HEN hNl hTl
      have hne : ((L.length : Int) == 0) = false := by rw [beq_eq_false_iff_ne]; omega
      clear hL hT hN hok hzo hZ1 hZ2 hZ3 HR
      have HLEN := hide hlen; clear hlen
      have HLL := hide hLl; clear hLl
      have HNL := hide hNl; clear hNl
      have HTL := hide hTl; clear hTl
      have HZZ := hide hzl; clear hzl
      have HNN := hide hn; clear hn
      go_wp2_with fail; refine (HP1.out _ (Ext.refl _)).mono ?_; rintro e w2 ⟨s2, c2, rfl, R2, hb2⟩
      have E2 := Ext.of hb2
      go_wp2_with fail; refine (HP2.out _ E2).mono ?_; rintro e w3 ⟨s3, c3, rfl, R3, hb3⟩
      have E3 := Ext.of hb3
      have L2 := hide (R2.lst.ext E3)
      have L3 := hide R3.lst
      clear hb2 hb3 R2 R3
      go_wp2_with fail; refine (HEQ.out s2 c2 s3 c3 _ L2.out L3.out).mono ?_; rintro e w4 ⟨rfl, hb4⟩
      have E4 := Ext.of hb4
      clear hb4 L2 L3 HP1 HP2 HEQ HM
      have EX := (E2.trans E3).trans E4
      have hll : ll.length ≤ 7 := l7
      have hM0 := Mat.made w4.heap.size w4 (Nat.le_refl _)
      have hE0 := (Ext.refl w4).alloc (.cells #[] 24)
      obtain ⟨B, hB⟩ : ∃ B, B = w4.heap.size := ⟨_, rfl⟩
      rw [← hB] at hM0
      have hB1 : B ≤ w4.heap.size := Nat.le_of_eq hB
      have hB2 : w4.heap.size ≤ B := Nat.le_of_eq hB.symm
      rw [hB] at hM0
      have hM1 := hM0.le hB1
      clear hB hM0
      rw [← HNN.out]
      go_wp2
      go_loopw [6, 7] (fun v i wr => ∃ (c : Nat) (s2 : Option Addr) (c2 : Nat) (zz : List (List Int)) (hz : Heads), c ≤ n ∧ i = .int .i64 c ∧ v = .slice s2 c c2 ∧ Hid (zz = zrs n c) ∧ Hid (zz.length = c) ∧ Mat B wr s2 c2 zz hz ∧ Ext w4 wr) (fun _ i _ => n - (intOf i).toNat)
      case atStart => exact ⟨0, _, 0, [], [], Nat.zero_le _, rfl, rfl, HZ0, (show ([] : List (List Int)).length = 0 from rfl), hM1, hE0⟩
      case round =>
        clear hM1 hE0
        obtain ⟨c, s7, c7, zz, hz, hc, rfl, rfl, HZ, HZl, hMM, hE⟩ := hrel
        by_cases hlt : c < n
        · have HS := hide (show zz ++ [zeros n] = zrs n (c + 1) by rw [HZ.out]; exact HZS.out c)
          have HSl := hide (show (zz ++ [zeros n]).length = c + 1 by rw [List.length_append, HZl.out]; rfl)
          have hMlt := hMM.lt
          have hmk := HMK.out
          have hzl := HZZ.out
          have R1 := (Arr.new wr (zeros n)).row (base := wr.heap.size) (Nat.le_refl _) (by rw [zeros_len]; omega)
          have hM6 := hMM.ext ((Ext.refl wr).alloc (.cells (ints (zeros n)) 3))
          have hE6 := hE.alloc (.cells (ints (zeros n)) 3)
          have hz6 : wr.heap.size ≤ (wr.alloc (.cells (ints (zeros n)) 3)).heap.size := by simp
          rw [hzl] at R1
          have HZ2 := hide hzl; clear hzl
          have hBz : B ≤ wr.heap.size := Nat.le_trans hB1 hE.size
          go_wp2_with (first | (at_builtin; refine append_rowB (s := .tmp 43) (x := .tmp 47) rfl rfl (show Value.slice s7 c c7 = Value.slice s7 zz.length c7 by rw [HZl.out]) (show Value.slice (some ⟨wr.heap.size + 1, 0, none⟩) 1 1 = _ by simp) HZ2.out hM6 hMlt R1 (by rw [HZl.out]; omega) hBz hz6 ?_; intro g4 c4 w4 M4 hb4))
          have E7 := hE6.below hb4 hB2
          clear hb4 hM6 R1
          go_wp2
          go_roundw
          case rel => exact ⟨c + 1, some ⟨g4, 0, none⟩, c4, zz ++ [zeros n], _, by omega, by go_num, by rw [HZl.out], HS, HSl, M4, E7⟩
          case measure => simp [intOf]; omega
        · obtain rfl : c = n := by omega
          have hZe := HZ.out
          rw [hZe] at hMM
          have HMZ := hide hMM.mst
          clear hMM hZe HMK HZ HZl HZS HZL HZ0 hlt
          have EE := EX.trans hE
          go_wp2_with fail; refine (HBO.out s7 c7 _ HMZ.out).mono ?_; rintro e w5 ⟨s5, c5, rfl, R5, hb5⟩
          have E5 := Ext.of hb5
          have hc5 := R5.cap
          have L5 := hide R5.lst
          clear hb5 R5
          go_wp2_with fail; refine (HNU.out _).mono ?_; rintro e w6 ⟨s6, c6, rfl, R6, hb6⟩
          have E6 := Ext.of hb6
          have L6 := hide R6.lst
          clear hb6 R6
          go_wp2_with fail; refine (HEN.out s5 c5 s6 c6 _ (L5.out.ext E6) L6.out).mono ?_; rintro e w7 ⟨rfl, hb7⟩
          have E7 := Ext.of hb7
          clear hb7 L6
          have E57 := (E5.trans E6).trans E7
          go_wp2_with fail; refine (HBN.out s7 c7 _ (HMZ.out.ext E57)).mono ?_; rintro e w8 ⟨s8, c8, rfl, R8, hb8⟩
          have E8 := Ext.of hb8
          have L8 := hide R8.lst
          clear hb8 R8
          go_wp2_with fail; refine (HNE.out s5 c5 _ (L5.out.ext ((E6.trans E7).trans E8)) hc5).mono ?_; rintro e w9 ⟨s9, c9, rfl, R9, hb9⟩
          have E9 := Ext.of hb9
          have L9 := hide R9.lst
          clear hb9 R9
          go_wp2_with fail; refine (HET.out s8 c8 s9 c9 _ (L8.out.ext E9) L9.out).mono ?_; rintro e w10 ⟨rfl, hb10⟩
          have E10 := Ext.of hb10
          clear hb10
          have E := E1.trans ((EX.trans hE).trans ((E57.trans E8).trans (E9.trans E10)))
          go_wp2
          go_ret
          exact ⟨rfl, E⟩
    · have hnil := bnL_no hok
      rw [hnil] at HP1 HP2 HEQ
      clear hok hnil hLl
      go_wp2_with fail; refine (HP1.out _ (Ext.refl _)).mono ?_; rintro e w2 ⟨s2, c2, rfl, R2, hb2⟩
      have E2 := Ext.of hb2
      go_wp2_with fail; refine (HP2.out _ E2).mono ?_; rintro e w3 ⟨s3, c3, rfl, R3, hb3⟩
      have E3 := Ext.of hb3
      have L2 := hide (R2.lst.ext E3)
      have L3 := hide R3.lst
      clear hb2 hb3 R2 R3
      go_wp2_with fail; refine (HEQ.out s2 c2 s3 c3 _ L2.out L3.out).mono ?_; rintro e w4 ⟨rfl, hb4⟩
      have E4 := Ext.of hb4
      clear hb4
      go_wp2_with fail; refine (HP2.out _ ((E2.trans E3).trans E4)).mono ?_; rintro e w5 ⟨s5, c5, rfl, R5, hb5⟩
      have E5 := Ext.of hb5
      have L5 := hide R5.lst
      have L6 := hide ((L2.out.ext E4).ext E5)
      clear hb5 R5
      go_wp2_with fail; refine (HEQ.out s2 c2 s5 c5 _ L6.out L5.out).mono ?_; rintro e w6 ⟨rfl, hb6⟩
      have E6 := Ext.of hb6
      clear hb6
      have E := E1.trans (((E2.trans E3).trans E4).trans (E5.trans E6))
      go_wp2
      go_ret
      exact ⟨rfl, E⟩
end Go.Proofs.Ythbkkbcbhhmhoab
