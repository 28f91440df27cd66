/- Chapter 4: shares that are added, refreshed; the polynomial with a secret: contracts of the program and of the model. -/
import Derived.Test.YtgmhodmgbhpdaabShr7
import Derived.Deep.RegionHeld3
namespace Go.Proofs.Ytgmhodmgbhpdaab
open Go.ChangeShapes Go.WideShapes Go.ChangeAt Go.RowKit Go.Joins Go.Sort
set_option linter.unusedVariables false

/-- sums of shares -/
def sumS (a b : List Sh) : List Sh := List.zipWith (fun s t => ⟨s.x, (s.y + t.y) % 251⟩) a b
theorem sumS_len {a b : List Sh} (h : a.length = b.length) : (sumS a b).length = a.length := by unfold sumS; rw [List.length_zipWith]; omega
theorem sumS_at {a b : List Sh} {k : Nat} (h1 : k < a.length) (h2 : k < b.length) : (sumS a b).getD k Sh.z = ⟨(a.getD k Sh.z).x, ((a.getD k Sh.z).y + (b.getD k Sh.z).y) % 251⟩ := by
  unfold sumS
  simp [List.getD_eq_getElem?_getD, List.getElem?_zipWith, h1, h2]
theorem sumS_nil (a : List Sh) : sumS a [] = [] := by unfold sumS; simp
open Classical in
noncomputable def asR (a b : List Sh) : List Sh := if svOk a ∧ svOk b ∧ xsL a = xsL b then sumS a b else []
theorem asR_yes {a b : List Sh} (h1 : svOk a) (h2 : svOk b) (h : xsL a = xsL b) : asR a b = sumS a b := if_pos ⟨h1, h2, h⟩
theorem asR_no {a b : List Sh} (h : ¬ (svOk a ∧ svOk b ∧ xsL a = xsL b)) : asR a b = [] := if_neg h
theorem asR_len (a b : List Sh) : (asR a b).length ≤ a.length := by
  unfold asR; split
  · unfold sumS; rw [List.length_zipWith]; omega
  · exact Nat.zero_le _
theorem xs_ne {a b : List Sh} {k : Nat} (h : (a.getD k Sh.z).x ≠ (b.getD k Sh.z).x) : xsL a ≠ xsL b := fun e => h (by rw [← xsL_at, ← xsL_at, e])
theorem xs_eq {a b : List Sh} (hl : a.length = b.length) (h : ∀ j, j < a.length → (a.getD j Sh.z).x = (b.getD j Sh.z).x) : xsL a = xsL b :=
  ext_getD (by rw [xsL_len, xsL_len, hl]) fun j hj => by rw [xsL_len] at hj; rw [xsL_at, xsL_at]; exact h j hj
theorem xs_len {a b : List Sh} (h : a.length ≠ b.length) : xsL a ≠ xsL b := fun e => h (by rw [← xsL_len, ← xsL_len, e])
theorem x_succ {a b : List Sh} {k : Nat} (h : ∀ j, j < k → (a.getD j Sh.z).x = (b.getD j Sh.z).x) (hk : (a.getD k Sh.z).x = (b.getD k Sh.z).x) : ∀ j, j < k + 1 → (a.getD j Sh.z).x = (b.getD j Sh.z).x := fun j hj => by
  by_cases e : j = k
  · rw [e]; exact hk
  · exact h j (by omega)
theorem sum_set {a b m : List Sh} {k : Nat} (hm : m.length = a.length) (h1 : k < a.length) (h2 : k < b.length) (h : ∀ j, j < k → m.getD j Sh.z = (sumS a b).getD j Sh.z) :
    ∀ j, j < k + 1 → (m.set k ⟨(a.getD k Sh.z).x, ((a.getD k Sh.z).y + (b.getD k Sh.z).y) % 251⟩).getD j Sh.z = (sumS a b).getD j Sh.z := by
  intro j hj
  by_cases e : j = k
  · subst e
    rw [sumS_at h1 h2, List.getD_eq_getElem?_getD, List.getElem?_set_self (by omega)]; rfl
  · rw [List.getD_eq_getElem?_getD, List.getElem?_set_ne (Ne.symm e), ← List.getD_eq_getElem?_getD]; exact h j (by omega)
theorem sum_take {a b : List Sh} {k : Nat} (h1 : k < a.length) (h2 : k < b.length) : (sumS a b).take k ++ [⟨(a.getD k Sh.z).x, ((a.getD k Sh.z).y + (b.getD k Sh.z).y) % 251⟩] = (sumS a b).take (k + 1) := by
  have hk : k < (sumS a b).length := by unfold sumS; rw [List.length_zipWith]; omega
  rw [List.take_succ_eq_append_getElem hk, ← sumS_at h1 h2, List.getD_eq_getElem?_getD, List.getElem?_eq_getElem hk]; rfl
set_option maxHeartbeats 1600000 in
theorem implAdd (sa sb : Option Addr) (ca cb na nb : Nat) (a b : List Sh) (w : World) (h : Sst w sa a) (h2 : Sst w sb b) (hna : a.length = na) (hnb : b.length = nb) (hl : na ≤ 2000000) (hl2 : nb ≤ 2000000) :
    Calls Try.prog 30 #[.slice sa na ca, .slice sb nb cb] w (RetS (asR a b) w) := by
  subst hna hnb
  have H := hide h; clear h
  have H2 := hide h2; clear h2
  by_cases hv : svOk a; rotate_left
  · have HF := hide (asR_no (a := a) (b := b) fun h => hv h.1)
    have hvb := svB_no hv
    clear hv
    go_enter Try.func30, Try.ntmps30
    go_wp2_with fail; refine (Ret.eqB (implVS _ _ _ a _ H.out rfl hl) hvb).mono ?_; rintro e w1 ⟨rfl, E1⟩
    go_wp2
    go_ret
    exact RetS.of (base := 0) HF.out (RowS.nil _ _) E1
  by_cases hv2 : svOk b; rotate_left
  · have HF := hide (asR_no (a := a) (b := b) fun h => hv2 h.2.1)
    have hvb := svB_yes hv
    have hvb2 := svB_no hv2
    clear hv hv2
    go_enter Try.func30, Try.ntmps30
    go_wp2_with fail; refine (Ret.eqB (implVS _ _ _ a _ H.out rfl hl) hvb).mono ?_; rintro e w1 ⟨rfl, E1⟩
    go_wp2_with fail; refine (Ret.eqB (implVS _ _ _ b _ (H2.out.ext E1) rfl hl2) hvb2).mono ?_; rintro e w2 ⟨rfl, E2⟩
    go_wp2
    go_ret
    exact RetS.of (base := 0) HF.out (RowS.nil _ _) (E1.trans E2)
  have hvb := svB_yes hv
  have hvb2 := svB_yes hv2
  have h12 := hv.len
  have h122 := hv2.len
  by_cases hlen : a.length = b.length; rotate_left
  · have HF := hide (asR_no (a := a) (b := b) fun h => xs_len hlen h.2.2)
    have hne : ((a.length : Int) != (b.length : Int)) = true := ne_len hlen
    clear hv hv2 hlen
    go_enter Try.func30, Try.ntmps30
    go_wp2_with fail; refine (Ret.eqB (implVS _ _ _ a _ H.out rfl hl) hvb).mono ?_; rintro e w1 ⟨rfl, E1⟩
    go_wp2_with fail; refine (Ret.eqB (implVS _ _ _ b _ (H2.out.ext E1) rfl hl2) hvb2).mono ?_; rintro e w2 ⟨rfl, E2⟩
    go_wp2
    go_ret
    exact RetS.of (base := 0) HF.out (RowS.nil _ _) (E1.trans E2)
  have HL := hide hlen
  have hle1 : a.length ≤ b.length := by omega
  have hne : ((a.length : Int) != (b.length : Int)) = false := eq_len hlen
  have HY := hide (fun h => asR_yes hv hv2 h)
  have HN := hide (fun (h : xsL a ≠ xsL b) => asR_no (a := a) (b := b) fun h2 => h h2.2.2)
  have HGA := hide hv.gd
  have HGB := hide hv2.gd
  clear hlen hv hv2
  go_enter Try.func30, Try.ntmps30
  go_wp2_with fail; refine (Ret.eqB (implVS _ _ _ a _ H.out rfl hl) hvb).mono ?_; rintro e w1 ⟨rfl, E1⟩
  go_wp2_with fail; refine (Ret.eqB (implVS _ _ _ b _ (H2.out.ext E1) rfl hl2) hvb2).mono ?_; rintro e w2 ⟨rfl, E2⟩
  have E12 := E1.trans E2
  have hmk := run_makeShs a.length hl
  have HZ := hide (zeroS_len a.length)
  have A0 := ArrS.new w2 (zeroS a.length)
  have E0 := E12.alloc (.cells (ints (flat (zeroS a.length))) 40)
  have hw2 := E12.size
  go_wp2
  clear hmk hvb hvb2 E1 E2
  go_loopw [28] (fun i wr => ∃ (k : Nat) (m : List Sh), k ≤ a.length ∧ i = .int .i64 k ∧ Hid (m.length = a.length) ∧ Hid (∀ j, j < k → m.getD j Sh.z = (sumS a b).getD j Sh.z) ∧ Hid (∀ j, j < k → (a.getD j Sh.z).x = (b.getD j Sh.z).x) ∧ ArrS wr w2.heap.size m ∧ Ext w wr) (fun i _ => a.length - (intOf i).toNat)
  case atStart => exact ⟨0, _, Nat.zero_le _, rfl, HZ.out, (show ∀ j, j < 0 → _ from fun j hj => absurd hj (Nat.not_lt_zero _)), (show ∀ j, j < 0 → _ from fun j hj => absurd hj (Nat.not_lt_zero _)), A0, E0⟩
  case round =>
    clear A0 E0 HZ
    obtain ⟨k, m, hk, rfl, HM, HJ, HX, hA, hE⟩ := hrel
    by_cases hlt : k < a.length
    · have hltb : k < b.length := by omega
      have hkb : (k : Int) < (b.length : Int) := by omega
      obtain ⟨g, off, rfl, hg, q0, q1⟩ := (H.out.ext hE).at hlt
      obtain ⟨g2, off2, rfl, hg2, p0, p1⟩ := (H2.out.ext hE).at hltb
      have hya := HGA.out.y k
      have hyb := HGB.out.y k
      have HS := hide (sum_set HM.out hlt hltb HJ.out)
      have HXS := hide (fun h => x_succ HX.out h)
      have HXN := hide (fun h => HN.out (xs_ne (k := k) h))
      have HL2 := hide (fun v => (show (m.set k v).length = a.length by rw [List.length_set]; exact HM.out))
      obtain ⟨x, hx⟩ : ∃ x, x = (a.getD k Sh.z).x := ⟨_, rfl⟩; rw [← hx] at q0 HS HXS HXN
      obtain ⟨y, hy⟩ : ∃ y, y = (a.getD k Sh.z).y := ⟨_, rfl⟩; rw [← hy] at q1 hya HS
      obtain ⟨x2, hx2⟩ : ∃ x2, x2 = (b.getD k Sh.z).x := ⟨_, rfl⟩; rw [← hx2] at p0 HXS HXN
      obtain ⟨y2, hy2⟩ : ∃ y2, y2 = (b.getD k Sh.z).y := ⟨_, rfl⟩; rw [← hy2] at p1 hyb HS
      clear hx hy hx2 hy2
      have EA := hE.alloc (.cells #[.int .i64 x, .int .i64 y] 40)
      have hA1 := hA.keep ((Ext.refl wr).alloc (.cells #[.int .i64 x, .int .i64 y] 40))
      have X1 := Box.new wr #[.int .i64 x, .int .i64 y] 40
      have t0 := (((Ext.refl wr).alloc (.cells #[.int .i64 x, .int .i64 y] 40)).cell (o := off2 + k * 2) hg2).trans p0
      have t1 := (((Ext.refl wr).alloc (.cells #[.int .i64 x, .int .i64 y] 40)).cell (o := off2 + k * 2 + 1) hg2).trans p1
      obtain ⟨r0, r1⟩ := X1.reads (Ext.refl _)
      have s0 := cell_regrown t0
      by_cases he : x = x2
      · have HX2 := hide (HXS.out he)
        have hd : ((x : Int) != x2) = false := by rw [he]; simp
        have HE := hide he; clear he
        have hsum : 0 ≤ y + y2 ∧ y + y2 ≤ 500 := by omega
        obtain ⟨v, hv⟩ : ∃ v, v = (y + y2) % 251 := ⟨_, rfl⟩
        rw [← hv] at HS
        have hs1 : IntKind.i64.wrap (y + y2) = y + y2 := IntWalk.i64_in _ (by omega)
        have hs2 : (y + y2).tmod 251 = v := by rw [Int.tmod_eq_emod_of_nonneg (by omega)]; exact hv.symm
        have hs3 : (y + y2) % 251 = v := hv.symm
        clear hv HXS HXN p0 p1
        go_wp2
        refine wp_region_quiet_below (by kernel_rfl) (by kernel_rfl) ?_
        repeat (go_big_quiet_step (fail))
        refine wpQuiet_nil ?_; intro w6 hq; have E6 := Ext.class hq; clear hq
        clear r0 r1 s0 t0 q0 q1
        have hX6 := X1.keep E6
        obtain ⟨y0, y1, _, _⟩ := hX6.two
        have u1 := (E6.cell (o := off2 + k * 2 + 1) (show g2 < (wr.alloc (.cells #[.int .i64 x, .int .i64 y] 40)).heap.size by simp; omega)).trans t1
        have hA6 := hA1.keep E6
        have hE6 := EA.trans E6
        have hkm : k < m.length := by rw [HM.out]; exact hlt
        obtain ⟨d0, d1⟩ := hA6.cell hkm
        have f0 := hA6.free (k * 2)
        have f1 := hA6.free (k * 2 + 1)
        have HA7 := hide (hA6.storeXY hkm x v)
        obtain ⟨z0, hz0⟩ : ∃ z0, z0 = (m.getD k Sh.z).x := ⟨_, rfl⟩; rw [← hz0] at d0
        obtain ⟨z1, hz1⟩ : ∃ z1, z1 = (m.getD k Sh.z).y := ⟨_, rfl⟩; rw [← hz1] at d1
        clear hz0 hz1 hkm t1 hA1 EA X1 hA hE
        go_wp2
        refine wp_region_still_tail 15 (by kernel_rfl) (by kernel_rfl) ?_
        simp only [List.take_succ_cons, List.take_zero, List.drop_succ_cons, List.drop_zero]
        repeat still_step
        refine wpStill_nil ?_
        change wpList _ _ _ _ _ (World.drew _)
        clear hs1 hs2 hs3
        go_wp2
        go_roundw
        case rel => exact ⟨k + 1, _, by omega, by go_num, HL2.out _, HS, HX2, (show ArrS _ _ _ from HA7.out.keep (Ext.refl _).drew), ((hE6.setCell hw2 _).setCell hw2 _).drew⟩
        case measure => (first | (simp [intOf]; done) | (simp [intOf]; omega))
      · have HF := hide (HXN.out he)
        have hd : ((x : Int) != x2) = true := by rw [bne_iff_ne]; exact he
        clear HXS HXN he HS
        go_wp2
        refine wp_region_quiet_below (by kernel_rfl) (by kernel_rfl) ?_
        repeat (go_big_quiet_step (fail))
        refine wpQuiet_nil ?_; intro w6 hq; have E6 := Ext.class hq; clear hq
        go_wp2
        go_ret
        exact RetS.of (base := 0) HF.out (RowS.nil _ _) (EA.trans E6)
    · obtain rfl : k = a.length := by omega
      have HE := hide (show m = asR a b by
        rw [HY.out (xs_eq HL.out HX.out)]; exact ext_sh (by rw [HM.out, sumS_len HL.out]) (fun j hj => HJ.out j (by rw [HM.out] at hj; exact hj)))
      have HLN := hide (show (asR a b).length = a.length by rw [← HE.out]; exact HM.out)
      go_wp2
      go_ret
      have R := RowSOf hA HE.out hw2 (by rw [HLN.out]; exact hl)
      rw [HLN.out] at R
      exact ⟨some ⟨w2.heap.size, 0, none⟩, a.length, by rw [HLN.out]; rfl, R, hE⟩
set_option maxHeartbeats 1600000 in
theorem specAdd (sa sb : Option Addr) (ca cb na nb : Nat) (a b : List Sh) (w : World) (h : Sst w sa a) (h2 : Sst w sb b) (hna : a.length = na) (hnb : b.length = nb) (hl : na ≤ 2000000) (hl2 : nb ≤ 2000000) :
    Calls Try.prog 29 #[.slice sa na ca, .slice sb nb cb] w (RetS (asR a b) w) := by
  subst hna hnb
  have H := hide h; clear h
  have H2 := hide h2; clear h2
  by_cases hv : svOk a; rotate_left
  · have HF := hide (asR_no (a := a) (b := b) fun h => hv h.1)
    have hvb := svB_no hv
    clear hv
    go_enter Try.func29, Try.ntmps29
    go_wp2_with fail; refine (Ret.eqB (specvS _ _ _ a _ H.out rfl hl) hvb).mono ?_; rintro e w1 ⟨rfl, E1⟩
    go_wp2
    go_ret
    exact RetS.of (base := 0) HF.out (RowS.nil _ _) E1
  by_cases hv2 : svOk b; rotate_left
  · have HF := hide (asR_no (a := a) (b := b) fun h => hv2 h.2.1)
    have hvb := svB_yes hv
    have hvb2 := svB_no hv2
    clear hv hv2
    go_enter Try.func29, Try.ntmps29
    go_wp2_with fail; refine (Ret.eqB (specvS _ _ _ a _ H.out rfl hl) hvb).mono ?_; rintro e w1 ⟨rfl, E1⟩
    go_wp2_with fail; refine (Ret.eqB (specvS _ _ _ b _ (H2.out.ext E1) rfl hl2) hvb2).mono ?_; rintro e w2 ⟨rfl, E2⟩
    go_wp2
    go_ret
    exact RetS.of (base := 0) HF.out (RowS.nil _ _) (E1.trans E2)
  have hvb := svB_yes hv
  have hvb2 := svB_yes hv2
  have h12 := hv.len
  have h122 := hv2.len
  by_cases hlen : a.length = b.length; rotate_left
  · have HF := hide (asR_no (a := a) (b := b) fun h => xs_len hlen h.2.2)
    have hne : ((a.length : Int) != (b.length : Int)) = true := ne_len hlen
    clear hv hv2 hlen
    go_enter Try.func29, Try.ntmps29
    go_wp2_with fail; refine (Ret.eqB (specvS _ _ _ a _ H.out rfl hl) hvb).mono ?_; rintro e w1 ⟨rfl, E1⟩
    go_wp2_with fail; refine (Ret.eqB (specvS _ _ _ b _ (H2.out.ext E1) rfl hl2) hvb2).mono ?_; rintro e w2 ⟨rfl, E2⟩
    go_wp2
    go_ret
    exact RetS.of (base := 0) HF.out (RowS.nil _ _) (E1.trans E2)
  have HL := hide hlen
  have hle1 : a.length ≤ b.length := by omega
  have hne : ((a.length : Int) != (b.length : Int)) = false := eq_len hlen
  have HY := hide (fun h => asR_yes hv hv2 h)
  have HN := hide (fun (h : xsL a ≠ xsL b) => asR_no (a := a) (b := b) fun h2 => h h2.2.2)
  have HGA := hide hv.gd
  have HGB := hide hv2.gd
  clear hlen hv hv2
  go_enter Try.func29, Try.ntmps29
  go_wp2_with fail; refine (Ret.eqB (specvS _ _ _ a _ H.out rfl hl) hvb).mono ?_; rintro e w1 ⟨rfl, E1⟩
  go_wp2_with fail; refine (Ret.eqB (specvS _ _ _ b _ (H2.out.ext E1) rfl hl2) hvb2).mono ?_; rintro e w2 ⟨rfl, E2⟩
  have E12 := E1.trans E2
  have R0 := (RowS.made w2.heap.size w2 (Nat.le_refl _)).le E12.size
  have E0 := E12.alloc (.cells #[] 40)
  go_wp2
  clear hvb hvb2 E1 E2
  go_loopw [5, 6] (fun u i wr => ∃ (k : Nat) (s2 : Option Addr) (c2 : Nat) (o : List Sh), k ≤ a.length ∧ i = .int .i64 k ∧ u = .slice s2 o.length c2 ∧ o.length ≤ k ∧ Hid (o = (sumS a b).take k) ∧ Hid (∀ j, j < k → (a.getD j Sh.z).x = (b.getD j Sh.z).x) ∧ RowS w.heap.size wr s2 c2 o ∧ Ext w wr) (fun _ i _ => a.length - (intOf i).toNat)
  case atStart => exact ⟨0, _, 0, [], Nat.zero_le _, rfl, rfl, Nat.le_refl _, (show [] = (sumS a b).take 0 from rfl), (show ∀ j, j < 0 → _ from fun j hj => absurd hj (Nat.not_lt_zero _)), R0, E0⟩
  case round =>
    clear R0 E0
    obtain ⟨k, s2, c2, o, hk, rfl, rfl, ho, HO, HX, hR, hE⟩ := hrel
    by_cases hlt : k < a.length
    · have hltb : k < b.length := by omega
      have hki : (k : Int) < (a.length : Int) := by omega
      have hkb : (k : Int) < (b.length : Int) := by omega
      obtain ⟨g, off, rfl, hg, q0, q1⟩ := H.out.at hlt
      obtain ⟨g2, off2, rfl, hg2, p0, p1⟩ := H2.out.at hltb
      have hya := HGA.out.y k
      have hyb := HGB.out.y k
      have HS := hide (show o ++ [⟨(a.getD k Sh.z).x, ((a.getD k Sh.z).y + (b.getD k Sh.z).y) % 251⟩] = (sumS a b).take (k + 1) by rw [HO.out]; exact sum_take hlt hltb)
      have HXS := hide (fun h => x_succ HX.out h)
      have HXN := hide (fun h => HN.out (xs_ne (k := k) h))
      obtain ⟨x, hx⟩ : ∃ x, x = (a.getD k Sh.z).x := ⟨_, rfl⟩; rw [← hx] at q0 HS HXS HXN
      obtain ⟨y, hy⟩ : ∃ y, y = (a.getD k Sh.z).y := ⟨_, rfl⟩; rw [← hy] at q1 hya HS
      obtain ⟨x2, hx2⟩ : ∃ x2, x2 = (b.getD k Sh.z).x := ⟨_, rfl⟩; rw [← hx2] at p0 HXS HXN
      obtain ⟨y2, hy2⟩ : ∃ y2, y2 = (b.getD k Sh.z).y := ⟨_, rfl⟩; rw [← hy2] at p1 hyb HS
      clear hx hy hx2 hy2
      have HK := hide (fun w2 (e : Ext w w2) => And.intro ((e.cell (o := off + k * 2) hg).trans q0) (And.intro ((e.cell (o := off + k * 2 + 1) hg).trans q1) ((e.cell (o := off2 + k * 2 + 1) hg2).trans p1)))
      have r0 := cell_regrown ((hE.cell (o := off + k * 2) hg).trans q0)
      have s0 := cell_regrown ((hE.cell (o := off2 + k * 2) hg2).trans p0)
      by_cases he : x = x2
      · have HX2 := hide (HXS.out he)
        have hd : ((x : Int) != x2) = false := by rw [he]; simp
        have HE := hide he; clear he
        obtain ⟨v, hv⟩ : ∃ v, v = (y + y2) % 251 := ⟨_, rfl⟩
        rw [← hv] at HS
        have hs1 : IntKind.i64.wrap (y + y2) = y + y2 := IntWalk.i64_in _ (by omega)
        have hs2 : (y + y2).tmod 251 = v := by rw [Int.tmod_eq_emod_of_nonneg (by omega)]; exact hv.symm
        have hs3 : (y + y2) % 251 = v := hv.symm
        clear hv HXS HXN p0 p1 q0 q1
        go_wp2
        refine wp_region_quiet_below (by kernel_rfl) (by kernel_rfl) ?_
        repeat (go_big_quiet_step (fail))
        refine wpQuiet_nil ?_; intro w6 hq; have E6 := Ext.class hq; clear hq
        clear r0 s0
        have hE6 := hE.trans E6
        have hz6 := hE6.size
        go_wp2
        refine wp_region_held_drew (S := (fun w' => w'.cell? ⟨g, off + k * 2, none⟩ = some (.int .i64 x) ∧ w'.cell? ⟨g, off + k * 2 + 1, none⟩ = some (.int .i64 y) ∧ w'.cell? ⟨g2, off2 + k * 2 + 1, none⟩ = some (.int .i64 y2))) (by kernel_rfl) (by first | exact HK.out _ (hE6.drew)) (fun hHeld => ?_)
        refine wpAnyH_take (i := 0) (oi := _) (v := ?_) rfl (by kernel_rfl) (by kernel_rfl) (by kernel_rfl) (fun _ _ _ h => h) (Or.inl ⟨by rfl, ?_⟩) (by assumption) ?_
        rotate_left
        · (intro w hSw; (try dsimp only at hSw); (try obtain ⟨hS0, hS1, hS2⟩ := hSw); go_simp; (try with_reducible rfl))
        (try simp only [List.getElem_toArray, List.getElem_cons_zero, Act.put, List.setIfInBounds_toArray, List.set_cons_zero, List.set_cons_succ])
        refine wpAnyH_take (i := 1) (oi := _) (v := ?_) rfl (by kernel_rfl) (by kernel_rfl) (by kernel_rfl) (fun _ _ _ h => h) (Or.inl ⟨by rfl, ?_⟩) (by assumption) ?_
        rotate_left
        · (intro w hSw; (try dsimp only at hSw); (try obtain ⟨hS0, hS1, hS2⟩ := hSw); go_simp; (try with_reducible rfl))
        (try simp only [List.getElem_toArray, List.getElem_cons_succ, List.getElem_cons_zero, Act.put, List.setIfInBounds_toArray, List.set_cons_zero, List.set_cons_succ])
        refine wpAnyH_take (i := 2) (oi := _) (v := ?_) rfl (by kernel_rfl) (by kernel_rfl) (by kernel_rfl) (fun _ _ _ h => h) (Or.inl ⟨by rfl, ?_⟩) (by assumption) ?_
        rotate_left
        · (intro w hSw; (try dsimp only at hSw); (try obtain ⟨hS0, hS1, hS2⟩ := hSw); go_simp; (try with_reducible rfl))
        (try simp only [List.getElem_toArray, List.getElem_cons_succ, List.getElem_cons_zero, Act.put, List.setIfInBounds_toArray, List.set_cons_zero, List.set_cons_succ])
        refine wpAnyH_take (i := 3) (oi := _) (v := ?_) rfl (by kernel_rfl) (by kernel_rfl) (by kernel_rfl) (fun _ _ _ h => h) (Or.inl ⟨by rfl, ?_⟩) (by assumption) ?_
        rotate_left
        · (intro w hSw; (try dsimp only at hSw); (try obtain ⟨hS0, hS1, hS2⟩ := hSw); go_simp; (try with_reducible rfl))
        (try simp only [List.getElem_toArray, List.getElem_cons_succ, List.getElem_cons_zero, Act.put, List.setIfInBounds_toArray, List.set_cons_zero, List.set_cons_succ])
        refine wpAnyH_take (i := 4) (oi := _) (v := ?_) rfl (by kernel_rfl) (by kernel_rfl) (by kernel_rfl) (fun _ _ _ h => h) (Or.inl ⟨by rfl, ?_⟩) (by assumption) ?_
        rotate_left
        · (intro w hSw; (try dsimp only at hSw); (try obtain ⟨hS0, hS1, hS2⟩ := hSw); go_simp; (try with_reducible rfl))
        (try simp only [List.getElem_toArray, List.getElem_cons_succ, List.getElem_cons_zero, Act.put, List.setIfInBounds_toArray, List.set_cons_zero, List.set_cons_succ])
        refine wpAnyH_take (i := 5) (oi := _) (v := ?_) rfl (by kernel_rfl) (by kernel_rfl) (by kernel_rfl) (fun _ _ _ h => h) (Or.inl ⟨by rfl, ?_⟩) (by assumption) ?_
        rotate_left
        · (intro w hSw; (try dsimp only at hSw); (try obtain ⟨hS0, hS1, hS2⟩ := hSw); go_simp; (try with_reducible rfl))
        (try simp only [List.getElem_toArray, List.getElem_cons_succ, List.getElem_cons_zero, Act.put, List.setIfInBounds_toArray, List.set_cons_zero, List.set_cons_succ])
        refine wpAnyH_take (i := 6) (oi := _) (v := ?_) rfl (by kernel_rfl) (by kernel_rfl) (by kernel_rfl) (fun _ _ _ h => h) (Or.inl ⟨by rfl, ?_⟩) (by assumption) ?_
        rotate_left
        · (intro w hSw; (try dsimp only at hSw); (try obtain ⟨hS0, hS1, hS2⟩ := hSw); go_simp; (try with_reducible rfl))
        (try simp only [List.getElem_toArray, List.getElem_cons_succ, List.getElem_cons_zero, Act.put, List.setIfInBounds_toArray, List.set_cons_zero, List.set_cons_succ])
        refine wpAnyH_take (i := 7) (oi := _) (v := ?_) rfl (by kernel_rfl) (by kernel_rfl) (by kernel_rfl) (fun _ _ _ h => h) (Or.inl ⟨by rfl, ?_⟩) (by assumption) ?_
        rotate_left
        · (intro w hSw; (try dsimp only at hSw); (try obtain ⟨hS0, hS1, hS2⟩ := hSw); go_simp; (try with_reducible rfl))
        (try simp only [List.getElem_toArray, List.getElem_cons_succ, List.getElem_cons_zero, Act.put, List.setIfInBounds_toArray, List.set_cons_zero, List.set_cons_succ])
        refine wpAnyH_take (i := 8) (oi := _) (v := ?_) rfl (by kernel_rfl) (by kernel_rfl) (by kernel_rfl) (fun _ _ _ h => h) (Or.inl ⟨by rfl, ?_⟩) (by assumption) ?_
        rotate_left
        · (intro w hSw; (try dsimp only at hSw); (try obtain ⟨hS0, hS1, hS2⟩ := hSw); go_simp; (try with_reducible rfl))
        (try simp only [List.getElem_toArray, List.getElem_cons_succ, List.getElem_cons_zero, Act.put, List.setIfInBounds_toArray, List.set_cons_zero, List.set_cons_succ])
        refine wpAnyH_take (i := 9) (oi := _) (v := ?_) rfl (by kernel_rfl) (by kernel_rfl) (by kernel_rfl) (fun _ _ _ h => h) (Or.inl ⟨by rfl, ?_⟩) (by assumption) ?_
        rotate_left
        · (intro w hSw; (try dsimp only at hSw); (try obtain ⟨hS0, hS1, hS2⟩ := hSw); go_simp; (try with_reducible rfl))
        (try simp only [List.getElem_toArray, List.getElem_cons_succ, List.getElem_cons_zero, Act.put, List.setIfInBounds_toArray, List.set_cons_zero, List.set_cons_succ])
        refine wpAnyH_take (i := 10) (oi := _) (v := ?_) rfl (by kernel_rfl) (by kernel_rfl) (by kernel_rfl) (fun _ _ _ h => h) (Or.inl ⟨by rfl, ?_⟩) (by assumption) ?_
        rotate_left
        · (intro w hSw; (try dsimp only at hSw); (try obtain ⟨hS0, hS1, hS2⟩ := hSw); go_simp; (try with_reducible rfl))
        (try simp only [List.getElem_toArray, List.getElem_cons_succ, List.getElem_cons_zero, Act.put, List.setIfInBounds_toArray, List.set_cons_zero, List.set_cons_succ])
        refine wpAnyH_take (i := 11) (oi := _) (v := ?_) rfl (by kernel_rfl) (by kernel_rfl) (by kernel_rfl) (fun _ _ _ h => h) (Or.inl ⟨by rfl, ?_⟩) (by assumption) ?_
        rotate_left
        · (intro w hSw; (try dsimp only at hSw); (try obtain ⟨hS0, hS1, hS2⟩ := hSw); go_simp; (try with_reducible rfl))
        (try simp only [List.getElem_toArray, List.getElem_cons_succ, List.getElem_cons_zero, Act.put, List.setIfInBounds_toArray, List.set_cons_zero, List.set_cons_succ])
        refine wpAnyH_take (i := 12) (oi := _) (v := ?_) rfl (by kernel_rfl) (by kernel_rfl) (by kernel_rfl) (fun _ _ _ h => h) (Or.inl ⟨by rfl, ?_⟩) (by assumption) ?_
        rotate_left
        · (intro w hSw; (try dsimp only at hSw); (try obtain ⟨hS0, hS1, hS2⟩ := hSw); go_simp; (try with_reducible rfl))
        (try simp only [List.getElem_toArray, List.getElem_cons_succ, List.getElem_cons_zero, Act.put, List.setIfInBounds_toArray, List.set_cons_zero, List.set_cons_succ])
        refine wpAnyH_take (i := 13) (oi := _) (v := ?_) rfl (by kernel_rfl) (by kernel_rfl) (by kernel_rfl) (fun _ _ _ h => h) (Or.inl ⟨by rfl, ?_⟩) (by assumption) ?_
        rotate_left
        · (intro w hSw; (try dsimp only at hSw); (try obtain ⟨hS0, hS1, hS2⟩ := hSw); go_simp; (try with_reducible rfl))
        (try simp only [List.getElem_toArray, List.getElem_cons_succ, List.getElem_cons_zero, Act.put, List.setIfInBounds_toArray, List.set_cons_zero, List.set_cons_succ])
        refine wpAnyH_take (i := 14) (oi := _) (v := ?_) rfl (by kernel_rfl) (by kernel_rfl) (by kernel_rfl) (fun _ _ _ h => h) (Or.inl ⟨by rfl, ?_⟩) (by assumption) ?_
        rotate_left
        · (intro w hSw; (try dsimp only at hSw); (try obtain ⟨hS0, hS1, hS2⟩ := hSw); go_simp; (try with_reducible rfl))
        (try simp only [List.getElem_toArray, List.getElem_cons_succ, List.getElem_cons_zero, Act.put, List.setIfInBounds_toArray, List.set_cons_zero, List.set_cons_succ])
        refine wpAnyH_take (i := 15) (oi := _) (v := ?_) rfl (by kernel_rfl) (by kernel_rfl) (by kernel_rfl) (fun _ _ _ h => h) (Or.inl ⟨by rfl, ?_⟩) (by assumption) ?_
        rotate_left
        · (intro w hSw; (try dsimp only at hSw); (try obtain ⟨hS0, hS1, hS2⟩ := hSw); go_simp; (try with_reducible rfl))
        (try simp only [List.getElem_toArray, List.getElem_cons_succ, List.getElem_cons_zero, Act.put, List.setIfInBounds_toArray, List.set_cons_zero, List.set_cons_succ])
        refine wpAnyH_take (i := 16) (oi := _) (v := ?_) rfl (by kernel_rfl) (by kernel_rfl) (by kernel_rfl) (fun _ _ _ h => h) (Or.inl ⟨by rfl, ?_⟩) (by assumption) ?_
        rotate_left
        · (intro w hSw; (try dsimp only at hSw); (try obtain ⟨hS0, hS1, hS2⟩ := hSw); go_simp; (try with_reducible rfl))
        (try simp only [List.getElem_toArray, List.getElem_cons_succ, List.getElem_cons_zero, Act.put, List.setIfInBounds_toArray, List.set_cons_zero, List.set_cons_succ])
        refine wpAnyH_take (i := 17) (oi := _) (v := ?_) rfl (by kernel_rfl) (by kernel_rfl) (by kernel_rfl) (fun _ _ _ h => h) (Or.inl ⟨by rfl, ?_⟩) (by assumption) ?_
        rotate_left
        · (intro w hSw; (try dsimp only at hSw); (try obtain ⟨hS0, hS1, hS2⟩ := hSw); go_simp; (try with_reducible rfl))
        (try simp only [List.getElem_toArray, List.getElem_cons_succ, List.getElem_cons_zero, Act.put, List.setIfInBounds_toArray, List.set_cons_zero, List.set_cons_succ])
        refine wpAnyH_take (i := 18) (oi := _) (v := ?_) rfl (by kernel_rfl) (by kernel_rfl) (by kernel_rfl) (fun _ _ _ h => h) (Or.inl ⟨by rfl, ?_⟩) (by assumption) ?_
        rotate_left
        · (intro w hSw; (try dsimp only at hSw); (try obtain ⟨hS0, hS1, hS2⟩ := hSw); go_simp; (try with_reducible rfl))
        (try simp only [List.getElem_toArray, List.getElem_cons_succ, List.getElem_cons_zero, Act.put, List.setIfInBounds_toArray, List.set_cons_zero, List.set_cons_succ])
        refine wpAnyH_ready (rs := [19]) (by kernel_rfl) (by simp) ?_
        refine AllReadyH.cons (o := _) rfl (fun K hK => ?_) AllReadyH.nil
        go_simp
        refine hK.out _ _ (HK.out _ ((hE6.drew).alloc _)) (fun hHeld => ?_); clear hK K
        (try simp only [List.getElem_toArray, List.getElem_cons_succ, List.getElem_cons_zero, Act.put, List.setIfInBounds_toArray, List.set_cons_zero, List.set_cons_succ])
        refine wpAnyH_ready (rs := [20]) (by kernel_rfl) (by simp) ?_
        refine AllReadyH.cons (o := _) rfl (fun K hK => ?_) AllReadyH.nil
        refine step_append_share (base := w.heap.size) (n := o.length) (ll := o) (s := .tmp 40) (x := .tmp 59) (v := ⟨x, v⟩) (by rfl) (by rfl) (by rfl) (by rfl) rfl (Box.new _ _ _) ((hR.ext E6).ext (((Ext.refl w6).drew).alloc _)) (by omega) (by simp; omega) ?_; intro g3 c3 w3 R3 hb3
        refine hK.out _ _ (HK.out _ ((((hE6.drew).alloc _)).below hb3 (Nat.le_refl _))) (fun hHeld => ?_); clear hK K
        (try simp only [List.getElem_toArray, List.getElem_cons_succ, List.getElem_cons_zero, Act.put, List.setIfInBounds_toArray, List.set_cons_zero, List.set_cons_succ])
        refine wpAnyH_ready (rs := [21]) (by kernel_rfl) (by simp) ?_
        refine AllReadyH.cons (o := _) rfl (fun K hK => ?_) AllReadyH.nil
        go_simp
        refine hK.out _ _ (HK.out _ ((((hE6.drew).alloc _)).below hb3 (Nat.le_refl _))) (fun hHeld => ?_); clear hK K
        (try simp only [List.getElem_toArray, List.getElem_cons_succ, List.getElem_cons_zero, Act.put, List.setIfInBounds_toArray, List.set_cons_zero, List.set_cons_succ])
        refine wpAnyH_done (by kernel_rfl) ?_ _
        have E4 := (((hE6.drew).alloc _)).below hb3 (Nat.le_refl _)
        clear hs1 hs2 hs3 hb3 HK
        go_wp2
        go_roundw
        case rel => exact ⟨k + 1, _, _, o ++ [⟨x, v⟩], by omega, by go_num, by rw [List.length_append]; rfl, by rw [List.length_append]; simp; omega, HS, HX2, R3, E4⟩
        case measure => (first | (simp [intOf]; done) | (simp [intOf]; omega))
      · have HF := hide (HXN.out he)
        have hd : ((x : Int) != x2) = true := by rw [bne_iff_ne]; exact he
        clear HXS HXN he HS
        go_wp2
        refine wp_region_quiet_below (by kernel_rfl) (by kernel_rfl) ?_
        repeat (go_big_quiet_step (fail))
        refine wpQuiet_nil ?_; intro w6 hq; have E6 := Ext.class hq; clear hq
        go_wp2
        go_ret
        exact RetS.of (base := 0) HF.out (RowS.nil _ _) (hE.trans E6)
    · have hkl : k = a.length := by omega
      have hki : decide ((k : Int) < (a.length : Int)) = false := decide_eq_false (by omega)
      have HE := hide (show asR a b = o by
        rw [HY.out (xs_eq HL.out (by rw [← hkl]; exact HX.out)), HO.out, hkl, List.take_of_length_le (by rw [sumS_len HL.out]; exact Nat.le_refl _)])
      clear hkl
      go_wp2
      go_ret
      exact RetS.of (base := 0) HE.out hR hE
end Go.Proofs.Ytgmhodmgbhpdaab
