/- Chapter 4: places and values of shares, valid shares, shares that are dealt: contracts of the program and of the model. -/
import Derived.Test.YtgmhodmgbhpdaabShr2
import Derived.StillTailTactics
namespace Go.Proofs.Ytgmhodmgbhpdaab
open Go.ChangeShapes Go.WideShapes Go.ChangeAt Go.RowKit Go.Joins Go.Sort
set_option linter.unusedVariables false

theorem Same.still {P : Program} {f : FuncId} {args : Array Value} {w : World} {v : Value} (h : Calls P f args w (Same v w)) : Calls P f args w fun e w'' => e = .returned v ∧ w'' = w :=
  h.mono fun e w' ⟨a, b⟩ => ⟨a, b.symm⟩
theorem RowOf {base : Nat} {w : World} {g : Nat} {m l : List Int} (h : Arr w g m) (e : m = l) (hb : base ≤ g) (hl : l.length ≤ 2000000) : Row base w (some ⟨g, 0, none⟩) l.length l := by
  subst e; exact h.row hb hl
set_option maxHeartbeats 400000 in
theorem implXs (sa : Option Addr) (cap : Nat) (ll : List Sh) (w : World) (h : Sst w sa ll) (hl : ll.length ≤ 2000000) :
    Calls Try.prog 70 #[.slice sa ll.length cap] w (RetList (xsL ll) w) := by
  have H := hide h; clear h
  have hmk := run_makeInts ll.length hl
  have HZ := hide (zeros_len ll.length)
  have A0 := Arr.new w (zeros ll.length)
  have E0 := (Ext.refl w).alloc (.cells (ints (zeros ll.length)) 3)
  go_enter Try.func70, Try.ntmps70
  go_wp2
  clear hmk
  go_loopw [11] (fun i wr => ∃ (k : Nat) (m : List Int), k ≤ ll.length ∧ i = .int .i64 k ∧ Hid (m.length = ll.length) ∧ Hid (∀ j, j < k → m.getD j 0 = (ll.getD j Sh.z).x) ∧ Arr wr w.heap.size m ∧ Ext w wr) (fun i _ => ll.length - (intOf i).toNat)
  case atStart => exact ⟨0, _, Nat.zero_le _, rfl, HZ.out, (show ∀ j, j < 0 → _ from fun j hj => absurd hj (Nat.not_lt_zero _)), A0, E0⟩
  case round =>
    clear A0 E0 HZ
    obtain ⟨k, m, hk, rfl, HM, HJ, hA, hE⟩ := hrel
    by_cases hlt : k < ll.length
    · obtain ⟨g, off, rfl, hg, q0, q1⟩ := (H.out.ext hE).at hlt
      have HJ2 := hide (show ∀ j, j < k + 1 → (m.set k (ll.getD k Sh.z).x).getD j 0 = (ll.getD j Sh.z).x from fun j hj => by
        rw [set_getD _ _ _ _ (by rw [HM.out]; exact hlt)]
        split
        · rename_i e; rw [e]
        · exact HJ.out j (by omega))
      obtain ⟨x, hx⟩ : ∃ x, x = (ll.getD k Sh.z).x := ⟨_, rfl⟩; rw [← hx] at q0 HJ2
      obtain ⟨y, hy⟩ : ∃ y, y = (ll.getD k Sh.z).y := ⟨_, rfl⟩; rw [← hy] at q1
      clear hx hy
      have EA := hE.alloc (.cells #[.int .i64 x, .int .i64 y] 40)
      have hA1 := hA.keep ((Ext.refl wr).alloc (.cells #[.int .i64 x, .int .i64 y] 40))
      have X1 := Box.new wr #[.int .i64 x, .int .i64 y] 40
      obtain ⟨y0, y1, _, _⟩ := X1.two
      have c2 := hA1.cell (j := k) (by rw [HM.out]; exact hlt)
      have f2 := hA1.free k
      obtain ⟨z, hz⟩ : ∃ z, z = m.getD k 0 := ⟨_, rfl⟩; rw [← hz] at c2
      clear hz X1
      have HL := hide (show (m.set k x).length = ll.length by rw [List.length_set, HM.out])
      go_wp2
      go_roundw
      case rel => exact ⟨k + 1, m.set k x, by omega, by go_num, HL, HJ2, hA1.set k x, EA.setCell (Nat.le_refl _) _⟩
      case measure => (first | (simp [intOf]; done) | (simp [intOf]; omega))
    · have HF := hide (show m = xsL ll from ext_getD (by rw [HM.out, xsL_len]) fun j hj => by rw [HJ.out j (by rw [HM.out] at hj; omega), xsL_at])
      have HL := hide (xsL_len ll)
      go_wp2
      go_ret
      have R := RowOf hA HF.out (Nat.le_refl _) (by rw [HL.out]; exact hl)
      rw [HL.out] at R
      exact ⟨some ⟨w.heap.size, 0, none⟩, ll.length, by rw [HL.out]; rfl, R, hE⟩
set_option maxHeartbeats 400000 in
theorem implYs (sa : Option Addr) (cap : Nat) (ll : List Sh) (w : World) (h : Sst w sa ll) (hl : ll.length ≤ 2000000) :
    Calls Try.prog 72 #[.slice sa ll.length cap] w (RetList (ysL ll) w) := by
  have H := hide h; clear h
  have hmk := run_makeInts ll.length hl
  have HZ := hide (zeros_len ll.length)
  have A0 := Arr.new w (zeros ll.length)
  have E0 := (Ext.refl w).alloc (.cells (ints (zeros ll.length)) 3)
  go_enter Try.func72, Try.ntmps72
  go_wp2
  clear hmk
  go_loopw [11] (fun i wr => ∃ (k : Nat) (m : List Int), k ≤ ll.length ∧ i = .int .i64 k ∧ Hid (m.length = ll.length) ∧ Hid (∀ j, j < k → m.getD j 0 = (ll.getD j Sh.z).y) ∧ Arr wr w.heap.size m ∧ Ext w wr) (fun i _ => ll.length - (intOf i).toNat)
  case atStart => exact ⟨0, _, Nat.zero_le _, rfl, HZ.out, (show ∀ j, j < 0 → _ from fun j hj => absurd hj (Nat.not_lt_zero _)), A0, E0⟩
  case round =>
    clear A0 E0 HZ
    obtain ⟨k, m, hk, rfl, HM, HJ, hA, hE⟩ := hrel
    by_cases hlt : k < ll.length
    · obtain ⟨g, off, rfl, hg, q0, q1⟩ := (H.out.ext hE).at hlt
      have HJ2 := hide (show ∀ j, j < k + 1 → (m.set k (ll.getD k Sh.z).y).getD j 0 = (ll.getD j Sh.z).y from fun j hj => by
        rw [set_getD _ _ _ _ (by rw [HM.out]; exact hlt)]
        split
        · rename_i e; rw [e]
        · exact HJ.out j (by omega))
      obtain ⟨x, hx⟩ : ∃ x, x = (ll.getD k Sh.z).x := ⟨_, rfl⟩; rw [← hx] at q0
      obtain ⟨y, hy⟩ : ∃ y, y = (ll.getD k Sh.z).y := ⟨_, rfl⟩; rw [← hy] at q1 HJ2
      clear hx hy
      have EA := hE.alloc (.cells #[.int .i64 x, .int .i64 y] 40)
      have hA1 := hA.keep ((Ext.refl wr).alloc (.cells #[.int .i64 x, .int .i64 y] 40))
      have X1 := Box.new wr #[.int .i64 x, .int .i64 y] 40
      obtain ⟨y0, y1, _, _⟩ := X1.two
      have c2 := hA1.cell (j := k) (by rw [HM.out]; exact hlt)
      have f2 := hA1.free k
      obtain ⟨z, hz⟩ : ∃ z, z = m.getD k 0 := ⟨_, rfl⟩; rw [← hz] at c2
      clear hz X1
      have HL := hide (show (m.set k y).length = ll.length by rw [List.length_set, HM.out])
      go_wp2
      go_roundw
      case rel => exact ⟨k + 1, m.set k y, by omega, by go_num, HL, HJ2, hA1.set k y, EA.setCell (Nat.le_refl _) _⟩
      case measure => (first | (simp [intOf]; done) | (simp [intOf]; omega))
    · have HF := hide (show m = ysL ll from ext_getD (by rw [HM.out, ysL_len]) fun j hj => by rw [HJ.out j (by rw [HM.out] at hj; omega), ysL_at])
      have HL := hide (ysL_len ll)
      go_wp2
      go_ret
      have R := RowOf hA HF.out (Nat.le_refl _) (by rw [HL.out]; exact hl)
      rw [HL.out] at R
      exact ⟨some ⟨w.heap.size, 0, none⟩, ll.length, by rw [HL.out]; rfl, R, hE⟩
theorem sv_parts (ll : List Sh) : svB ll = (plB (xsL ll) && alli (ysL ll) 0 250) := by
  rw [Bool.eq_iff_iff, Bool.and_eq_true, svB_iff, plB_iff, rg_alli]; rfl
theorem sv_long {ll : List Sh} (h : ¬ ll.length ≤ 12) : svB ll = false := svB_no fun h2 => h h2.len
set_option maxHeartbeats 400000 in
theorem implVS (sa : Option Addr) (cap n : Nat) (ll : List Sh) (w : World) (h : Sst w sa ll) (hn : ll.length = n) (hl : n ≤ 2000000) :
    Calls Try.prog 34 #[.slice sa n cap] w (Ret (.bool (svB ll)) w) := by
  subst hn
  have H := hide h; clear h
  by_cases h12 : ll.length ≤ 12
  · have hd : decide ((ll.length : Int) ≤ 12) = true := decide_eq_true (by omega)
    have HX := hide (xsL_len ll)
    have HY := hide (ysL_len ll)
    have HP := hide (sv_parts ll)
    obtain ⟨xs, hxs⟩ : ∃ xs, xs = xsL ll := ⟨_, rfl⟩; rw [← hxs] at HX HP
    obtain ⟨ys, hys⟩ : ∃ ys, ys = ysL ll := ⟨_, rfl⟩; rw [← hys] at HY HP
    have HXS := hide hxs; clear hxs
    have HYS := hide hys; clear hys
    have HIX := hide (fun w2 (e : Ext w w2) => HXS.out ▸ implXs sa cap ll w2 (H.out.ext e) hl)
    have HIY := hide (fun w2 (e : Ext w w2) => HYS.out ▸ implYs sa cap ll w2 (H.out.ext e) hl)
    clear HXS HYS
    go_enter Try.func34, Try.ntmps34
    go_wp2_with fail; refine (HIX.out _ (Ext.refl _)).mono ?_; rintro e w1 ⟨s1, c1, rfl, R1, hb1⟩
    have E1 := Ext.of hb1
    clear hb1
    by_cases hp : plB xs = true
    · go_wp2_with fail; refine (Ret.eqB (implPlaces s1 c1 xs.length xs _ R1.lst rfl (by rw [HX.out]; omega)) hp).mono ?_; rintro e w2 ⟨rfl, E2⟩
      have E12 := E1.trans E2
      go_wp2_with fail; refine (HIY.out _ E12).mono ?_; rintro e w3 ⟨s3, c3, rfl, R3, hb3⟩
      have E13 := E12.trans (Ext.of hb3)
      clear hb3
      go_wp2_with fail; refine (implRests s3 c3 ys.length ys _ R3.lst rfl (by rw [HY.out]; omega)).mono ?_; rintro e w' ⟨rfl, rfl⟩
      have HF := hide (show alli ys 0 250 = svB ll by rw [HP.out, hp, Bool.true_and])
      clear R1 R3
      go_wp2
      go_ret
      exact Ret.bool HF.out E13
    · rw [Bool.not_eq_true] at hp
      have HF := hide (show svB ll = false by rw [HP.out, hp, Bool.false_and])
      go_wp2_with fail; refine (Ret.eqB (implPlaces s1 c1 xs.length xs _ R1.lst rfl (by rw [HX.out]; omega)) hp).mono ?_; rintro e w2 ⟨rfl, E2⟩
      have E12 := E1.trans E2
      clear R1
      go_wp2
      go_ret
      exact Ret.bool (by rw [HF.out]) E12
  · have hd : decide ((ll.length : Int) ≤ 12) = false := decide_eq_false (by omega)
    have HF := hide (sv_long h12)
    go_enter Try.func34, Try.ntmps34
    go_wp2
    go_ret
    exact Ret.bool (by rw [HF.out]) (Ext.refl _)
theorem take_xs (ll : List Sh) (k : Nat) (hk : k < ll.length) : (xsL ll).take k ++ [(ll.getD k Sh.z).x] = (xsL ll).take (k + 1) := by
  rw [take_getD (xsL ll) k (by rw [xsL_len]; exact hk), xsL_at]
set_option maxHeartbeats 800000 in
theorem specvS (sa : Option Addr) (cap n : Nat) (ll : List Sh) (w : World) (h : Sst w sa ll) (hn : ll.length = n) (hl : n ≤ 2000000) :
    Calls Try.prog 54 #[.slice sa n cap] w (Ret (.bool (svB ll)) w) := by
  subst hn
  have H := hide h; clear h
  have R0 := Row.madeAt w.heap.size w.heap.size w rfl (Nat.le_refl _)
  have EE0 := (Ext.refl w).alloc (.cells #[] 3)
  go_enter Try.func54, Try.ntmps54
  go_wp2
  go_loopw [3, 4] (fun u i wr => ∃ (k : Nat) (s2 : Option Addr) (c2 : Nat) (o : List Int), k ≤ ll.length ∧ i = .int .i64 k ∧ u = .slice s2 o.length c2 ∧ o.length ≤ k ∧ Hid (o = (xsL ll).take k) ∧ Hid (∀ y ∈ (ysL ll).take k, (0 : Int) ≤ y ∧ y ≤ 250) ∧ Row w.heap.size wr s2 c2 o ∧ Ext w wr) (fun _ i _ => ll.length - (intOf i).toNat)
  case atStart => exact ⟨0, _, 0, [], Nat.zero_le _, rfl, rfl, Nat.le_refl _, (show [] = (xsL ll).take 0 from rfl), (show ∀ y ∈ (ysL ll).take 0, (0 : Int) ≤ y ∧ y ≤ 250 by simp), R0, EE0⟩
  case round =>
    clear R0 EE0
    obtain ⟨k, s2, c2, o, hk, rfl, rfl, ho, HO, HY, hR, hE⟩ := hrel
    by_cases hlt : k < ll.length
    · have hki : (k : Int) < (ll.length : Int) := by omega
      obtain ⟨g, off, rfl, hg, q0, q1⟩ := (H.out.ext hE).at hlt
      have HS := hide (show o ++ [(ll.getD k Sh.z).x] = (xsL ll).take (k + 1) by rw [HO.out]; exact take_xs ll k hlt)
      have HYY := hide (fun h => all_succ (l := ysL ll) (p := fun y => (0 : Int) ≤ y ∧ y ≤ 250) HY.out (show k < (ysL ll).length by rw [ysL_len]; exact hlt) (by rw [ysL_at]; exact h))
      have HN := hide (fun (h : svOk ll) => h.gd.y k)
      obtain ⟨x, hx⟩ : ∃ x, x = (ll.getD k Sh.z).x := ⟨_, rfl⟩; rw [← hx] at q0 HS
      obtain ⟨y, hy⟩ : ∃ y, y = (ll.getD k Sh.z).y := ⟨_, rfl⟩; rw [← hy] at q1 HYY HN
      clear hx hy HO
      by_cases hin : inr y 0 250 = true
      · have HY2 := hide (HYY.out (inr_iff.1 hin))
        clear HYY HN HY
        go_wp2_with fail; refine (Same.eqB (specRest _ _) hin).mono ?_; rintro e w' ⟨rfl, rfl⟩
        go_wp2_with (first | (at_builtin; refine append_int rfl (.tmp 19) (.tmp 25) rfl w.heap.size _ s2 c2 o x _ rfl rfl hR (by omega) hE.size ?_; intro g3 cap3 w3 R3 hb3))
        have E4 := Ext.of (Below.trans hE hb3)
        clear hb3
        go_wp2
        go_roundw
        case rel => exact ⟨k + 1, _, _, o ++ [x], by omega, by go_num, by rw [List.length_append]; rfl, by rw [List.length_append]; simp; omega, HS, HY2, R3, E4⟩
        case measure => (first | (simp [intOf]; done) | (simp [intOf]; omega))
      · have HF := hide (svB_no fun h => hin (inr_iff.2 (HN.out h)))
        rw [Bool.not_eq_true] at hin
        clear HYY HN HY HS
        go_wp2_with fail; refine (Same.eqB (specRest _ _) hin).mono ?_; rintro e w' ⟨rfl, rfl⟩
        go_wp2
        go_ret
        exact Ret.bool (by rw [HF.out]) hE
    · obtain rfl : k = ll.length := by omega
      have HX := hide (show o = xsL ll by rw [HO.out, List.take_of_length_le (by rw [xsL_len]; exact Nat.le_refl _)])
      have HF := hide (show plB o = svB ll by
        have := HY.out
        rw [List.take_of_length_le (by rw [ysL_len]; exact Nat.le_refl _)] at this
        rw [sv_parts, HX.out, rg_alli.2 this, Bool.and_true])
      clear HX HO HY
      go_wp2_with fail; refine (specPlaces s2 c2 o.length o _ hR.lst rfl (by omega) hR.cap).mono ?_; rintro e w2 ⟨rfl, E2⟩
      go_wp2
      go_ret
      exact Ret.bool HF.out (hE.trans E2)
/-- shares of a polynomial at places -/
def dl (c xs : List Int) : List Sh := xs.map fun x => ⟨x, pv c x⟩
theorem dl_len (c xs : List Int) : (dl c xs).length = xs.length := by simp [dl]
theorem dl_at (c xs : List Int) {k : Nat} (h : k < xs.length) : (dl c xs).getD k Sh.z = ⟨xs.getD k 0, pv c (xs.getD k 0)⟩ := by
  simp [dl, List.getD_eq_getElem?_getD, h]
theorem dl_take (c xs : List Int) (k : Nat) (h : k < xs.length) : dl c (xs.take k) ++ [⟨xs.getD k 0, pv c (xs.getD k 0)⟩] = dl c (xs.take (k + 1)) := by
  rw [take_getD xs k h]; simp [dl]
open Classical in
noncomputable def deR (c xs : List Int) : List Sh := if cfB c = true ∧ plB xs = true then dl c xs else []
theorem deR_yes {c xs : List Int} (h1 : cfB c = true) (h2 : plB xs = true) : deR c xs = dl c xs := if_pos ⟨h1, h2⟩
theorem deR_no {c xs : List Int} (h : cfB c = false) : deR c xs = [] := if_neg fun h2 => by rw [h] at h2; simp at h2
theorem deR_no2 {c xs : List Int} (h : plB xs = false) : deR c xs = [] := if_neg fun h2 => by rw [h] at h2; simp at h2
theorem deR_len (c xs : List Int) : (deR c xs).length ≤ xs.length := by
  unfold deR; split
  · rw [dl_len]; exact Nat.le_refl _
  · simp
/-- the first k of shares of a polynomial are in a list -/
theorem dl_set {c xs : List Int} {m : List Sh} {k : Nat} (hm : m.length = xs.length) (h : ∀ j, j < k → m.getD j Sh.z = (dl c xs).getD j Sh.z) (hk : k < xs.length) :
    ∀ j, j < k + 1 → (m.set k ⟨xs.getD k 0, pv c (xs.getD k 0)⟩).getD j Sh.z = (dl c xs).getD j Sh.z := by
  intro j hj
  by_cases e : j = k
  · subst e
    rw [dl_at c xs hk, List.getD_eq_getElem?_getD, List.getElem?_set_self (by omega)]; rfl
  · rw [List.getD_eq_getElem?_getD, List.getElem?_set_ne (Ne.symm e), ← List.getD_eq_getElem?_getD]; exact h j (by omega)
theorem ext_sh {a b : List Sh} (hl : a.length = b.length) (h : ∀ j, j < a.length → a.getD j Sh.z = b.getD j Sh.z) : a = b := by
  apply List.ext_getElem hl
  intro i h1 h2
  have := h i h1
  rw [List.getD_eq_getElem?_getD, List.getD_eq_getElem?_getD, List.getElem?_eq_getElem h1, List.getElem?_eq_getElem h2] at this
  simpa using this
theorem RowSOf {base : Nat} {w : World} {g : Nat} {m l : List Sh} (h : ArrS w g m) (e : m = l) (hb : base ≤ g) (hl : l.length ≤ 2000000) : RowS base w (some ⟨g, 0, none⟩) l.length l := by
  subst e; exact h.row hb hl
set_option maxHeartbeats 800000 in
theorem implDeal (sa sb : Option Addr) (ca cb : Nat) (c xs : List Int) (w : World) (h : Lst w sa c) (h2 : Lst w sb xs) (hl : c.length ≤ 2000000) (hl2 : xs.length ≤ 2000000) :
    Calls Try.prog 26 #[.slice sa c.length ca, .slice sb xs.length cb] w (RetS (deR c xs) w) := by
  have H := hide h; clear h
  have H2 := hide h2; clear h2
  by_cases hc : cfB c = true
  · by_cases hp : plB xs = true
    · have HF := hide (deR_yes hc hp)
      have HR := hide (cfB_iff.1 hc)
      have HP := hide (plB_iff.1 hp).2.1
      have hmk := run_makeShs xs.length hl2
      have HZ := hide (zeroS_len xs.length)
      go_enter Try.func26, Try.ntmps26
      go_wp2_with fail; refine (Same.eqB (implCoefs _ _ c _ H.out hl) hc).mono ?_; rintro e w' ⟨rfl, rfl⟩
      go_wp2_with fail; refine (Ret.eqB (implPlaces _ _ _ xs _ H2.out rfl hl2) hp).mono ?_; rintro e w1 ⟨rfl, E1⟩
      clear hc hp
      have A0 := ArrS.new w1 (zeroS xs.length)
      have E0 := E1.alloc (.cells (ints (flat (zeroS xs.length))) 40)
      have hw1 := E1.size
      go_wp2
      clear hmk
      go_loopw [21] (fun i wr => ∃ (k : Nat) (m : List Sh), k ≤ xs.length ∧ i = .int .i64 k ∧ Hid (m.length = xs.length) ∧ Hid (∀ j, j < k → m.getD j Sh.z = (dl c xs).getD j Sh.z) ∧ ArrS wr w1.heap.size m ∧ Ext w wr) (fun i _ => xs.length - (intOf i).toNat)
      case atStart => exact ⟨0, _, Nat.zero_le _, rfl, HZ.out, (show ∀ j, j < 0 → _ from fun j hj => absurd hj (Nat.not_lt_zero _)), A0, E0⟩
      case round =>
        clear A0 E0 HZ
        obtain ⟨k, m, hk, rfl, HM, HJ, hA, hE⟩ := hrel
        by_cases hlt : k < xs.length
        · obtain ⟨g, off, rfl, hg, q0⟩ := (H2.out.ext hE).at hlt
          have hx := HP.out _ (getD_mem hlt)
          have HS := hide (dl_set HM.out HJ.out hlt)
          have HL := hide (show (m.set k ⟨xs.getD k 0, pv c (xs.getD k 0)⟩).length = xs.length by rw [List.length_set, HM.out])
          obtain ⟨x, hxx⟩ : ∃ x, x = xs.getD k 0 := ⟨_, rfl⟩; rw [← hxx] at q0 hx HS HL
          clear hxx
          have hkm : k < m.length := by rw [HM.out]; exact hlt
          have HV := hide (implVal sa ca _ c x wr (H.out.ext hE) rfl hl HR.out.2 (by omega) (by omega))
          obtain ⟨v, hv⟩ : ∃ v, v = pv c x := ⟨_, rfl⟩; rw [← hv] at HS HL HV
          clear hv
          obtain ⟨d0, d1⟩ := hA.cell hkm
          have f0 := hA.free (k * 2)
          have f1 := hA.free (k * 2 + 1)
          obtain ⟨y0, hy0⟩ : ∃ y0, y0 = (m.getD k Sh.z).x := ⟨_, rfl⟩; rw [← hy0] at d0
          obtain ⟨y1, hy1⟩ : ∃ y1, y1 = (m.getD k Sh.z).y := ⟨_, rfl⟩; rw [← hy1] at d1
          clear hy0 hy1
          have HA2 := hide (hA.storeXY hkm x v)
          clear hkm
          go_wp2_with fail; refine (HV.out).mono ?_; rintro e w' ⟨rfl, rfl⟩
          go_wp2
          go_roundw
          case rel => exact ⟨k + 1, _, by omega, by go_num, HL, HS, HA2.out, (hE.setCell (by omega) _).setCell (by omega) _⟩
          case measure => (first | (simp [intOf]; done) | (simp [intOf]; omega))
        · have HE := hide (show m = deR c xs by
            rw [HF.out]; exact ext_sh (by rw [HM.out, dl_len]) (fun j hj => HJ.out j (by rw [HM.out] at hj; omega)))
          have HL := hide (show (deR c xs).length = xs.length by rw [HF.out, dl_len])
          go_wp2
          go_ret
          have R := RowSOf hA HE.out hw1 (by rw [HL.out]; exact hl2)
          rw [HL.out] at R
          exact ⟨some ⟨w1.heap.size, 0, none⟩, xs.length, by rw [HL.out]; rfl, R, hE⟩
    · rw [Bool.not_eq_true] at hp
      have HF := hide (deR_no2 (c := c) hp)
      go_enter Try.func26, Try.ntmps26
      go_wp2_with fail; refine (Same.eqB (implCoefs _ _ c _ H.out hl) hc).mono ?_; rintro e w' ⟨rfl, rfl⟩
      go_wp2_with fail; refine (Ret.eqB (implPlaces _ _ _ xs _ H2.out rfl hl2) hp).mono ?_; rintro e w1 ⟨rfl, E1⟩
      go_wp2
      go_ret
      exact RetS.of (base := 0) HF.out (RowS.nil _ _) E1
  · rw [Bool.not_eq_true] at hc
    have HF := hide (deR_no (xs := xs) hc)
    go_enter Try.func26, Try.ntmps26
    go_wp2_with fail; refine (Same.eqB (implCoefs _ _ c _ H.out hl) hc).mono ?_; rintro e w' ⟨rfl, rfl⟩
    go_wp2
    go_ret
    exact RetS.of (base := 0) HF.out (RowS.nil _ _) (Ext.refl _)
set_option maxHeartbeats 800000 in
theorem specdeal (sa sb : Option Addr) (ca cb n : Nat) (c xs : List Int) (w : World) (h : Lst w sa c) (h2 : Lst w sb xs) (hl : c.length ≤ 2000000) (hn : xs.length = n) (hl2 : n ≤ 2000000) (hr : rg c) (hp : ∀ x ∈ xs, 1 ≤ x ∧ x ≤ 250) :
    Calls Try.prog 67 #[.slice sa c.length ca, .slice sb n cb] w (RetS (dl c xs) w) := by
  subst hn
  have H := hide h; clear h
  have H2 := hide h2; clear h2
  have HR := hide hr; clear hr
  have HP := hide hp; clear hp
  have R0 := RowS.made w.heap.size w (Nat.le_refl _)
  have EE0 := (Ext.refl w).alloc (.cells #[] 40)
  go_enter Try.func67, Try.ntmps67
  go_wp2
  go_loopw [5, 6] (fun u i wr => ∃ (k : Nat) (s2 : Option Addr) (c2 : Nat) (o : List Sh), k ≤ xs.length ∧ i = .int .i64 k ∧ u = .slice s2 o.length c2 ∧ o.length ≤ k ∧ Hid (o = dl c (xs.take k)) ∧ RowS w.heap.size wr s2 c2 o ∧ Ext w wr) (fun _ i _ => xs.length - (intOf i).toNat)
  case atStart => exact ⟨0, _, 0, [], Nat.zero_le _, rfl, rfl, Nat.le_refl _, (show [] = dl c (xs.take 0) from rfl), R0, EE0⟩
  case round =>
    clear R0 EE0
    obtain ⟨k, s2, c2, o, hk, rfl, rfl, ho, HO, hR, hE⟩ := hrel
    by_cases hlt : k < xs.length
    · have hki : (k : Int) < (xs.length : Int) := by omega
      obtain ⟨g, off, rfl, hg, q0w⟩ := H2.out.at hlt
      have q0 := (hE.cell (o := off + k) hg).trans q0w
      have hx := HP.out _ (getD_mem hlt)
      have HS := hide (show o ++ [⟨xs.getD k 0, pv c (xs.getD k 0)⟩] = dl c (xs.take (k + 1)) by rw [HO.out]; exact dl_take c xs k hlt)
      obtain ⟨x, hxx⟩ : ∃ x, x = xs.getD k 0 := ⟨_, rfl⟩; rw [← hxx] at q0 q0w hx HS
      clear hxx HO
      have HV := hide (fun w2 (e : Ext w w2) => specVal sa ca _ c x w2 (H.out.ext e) rfl hl HR.out (by omega) (by omega))
      obtain ⟨v, hv⟩ : ∃ v, v = pv c x := ⟨_, rfl⟩; rw [← hv] at HS HV
      clear hv
      have hz := hE.size
      have HK := hide (fun w2 (e : Ext w w2) => And.intro ((e.cell (o := off + k) hg).trans q0w) e)
      go_wp2
      refine wp_region_held_drew (S := (fun w' => w'.cell? ⟨g, off + k, none⟩ = some (.int .i64 x) ∧ Ext w w')) (by kernel_rfl) (by first | exact HK.out _ (hE.drew)) (fun hHeld => ?_)
      refine wpAnyH_take (i := 0) (oi := _) (v := ?_) rfl (by kernel_rfl) (by kernel_rfl) (by kernel_rfl) (fun _ _ _ h => h) (Or.inl ⟨by rfl, ?_⟩) (by assumption) ?_
      rotate_left
      · (intro w hSw; (try dsimp only at hSw); (try obtain ⟨hS0, hS1⟩ := hSw); go_simp; (try with_reducible rfl))
      (try simp only [List.getElem_toArray, List.getElem_cons_zero, Act.put, List.setIfInBounds_toArray, List.set_cons_zero, List.set_cons_succ])
      refine wpAnyH_take (i := 1) (oi := _) (v := ?_) rfl (by kernel_rfl) (by kernel_rfl) (by kernel_rfl) (fun _ _ _ h => h) (Or.inl ⟨by rfl, ?_⟩) (by assumption) ?_
      rotate_left
      · (intro w hSw; (try dsimp only at hSw); (try obtain ⟨hS0, hS1⟩ := hSw); go_simp; (try with_reducible rfl))
      (try simp only [List.getElem_toArray, List.getElem_cons_succ, List.getElem_cons_zero, Act.put, List.setIfInBounds_toArray, List.set_cons_zero, List.set_cons_succ])
      refine wpAnyH_take (i := 2) (oi := _) (v := ?_) rfl (by kernel_rfl) (by kernel_rfl) (by kernel_rfl) (fun _ _ _ h => h) (Or.inl ⟨by rfl, ?_⟩) (by assumption) ?_
      rotate_left
      · (intro w hSw; (try dsimp only at hSw); (try obtain ⟨hS0, hS1⟩ := hSw); go_simp; (try with_reducible rfl))
      (try simp only [List.getElem_toArray, List.getElem_cons_succ, List.getElem_cons_zero, Act.put, List.setIfInBounds_toArray, List.set_cons_zero, List.set_cons_succ])
      refine wpAnyH_take (i := 3) (oi := _) (v := ?_) rfl (by kernel_rfl) (by kernel_rfl) (by kernel_rfl) (fun _ _ _ h => h) (Or.inl ⟨by rfl, ?_⟩) (by assumption) ?_
      rotate_left
      · (intro w hSw; (try dsimp only at hSw); (try obtain ⟨hS0, hS1⟩ := hSw); go_simp; (try with_reducible rfl))
      (try simp only [List.getElem_toArray, List.getElem_cons_succ, List.getElem_cons_zero, Act.put, List.setIfInBounds_toArray, List.set_cons_zero, List.set_cons_succ])
      refine wpAnyH_take (i := 4) (oi := _) (v := ?_) rfl (by kernel_rfl) (by kernel_rfl) (by kernel_rfl) (fun _ _ _ h => h) (Or.inl ⟨by rfl, ?_⟩) (by assumption) ?_
      rotate_left
      · (intro w hSw; (try dsimp only at hSw); (try obtain ⟨hS0, hS1⟩ := hSw); go_simp; (try with_reducible rfl))
      (try simp only [List.getElem_toArray, List.getElem_cons_succ, List.getElem_cons_zero, Act.put, List.setIfInBounds_toArray, List.set_cons_zero, List.set_cons_succ])
      refine wpAnyH_take (i := 5) (oi := _) (v := ?_) rfl (by kernel_rfl) (by kernel_rfl) (by kernel_rfl) (fun _ _ _ h => h) (Or.inl ⟨by rfl, ?_⟩) (by assumption) ?_
      rotate_left
      · (intro w hSw; (try dsimp only at hSw); (try obtain ⟨hS0, hS1⟩ := hSw); go_simp; (try with_reducible rfl))
      (try simp only [List.getElem_toArray, List.getElem_cons_succ, List.getElem_cons_zero, Act.put, List.setIfInBounds_toArray, List.set_cons_zero, List.set_cons_succ])
      refine wpAnyH_take (i := 6) (oi := _) (v := ?_) rfl (by kernel_rfl) (by kernel_rfl) (by kernel_rfl) (fun _ _ _ h => h) (Or.inl ⟨by rfl, ?_⟩) (by assumption) ?_
      rotate_left
      · (intro w hSw; (try dsimp only at hSw); (try obtain ⟨hS0, hS1⟩ := hSw); go_simp; (try with_reducible rfl))
      (try simp only [List.getElem_toArray, List.getElem_cons_succ, List.getElem_cons_zero, Act.put, List.setIfInBounds_toArray, List.set_cons_zero, List.set_cons_succ])
      refine wpAnyH_take (i := 7) (oi := _) (v := ?_) rfl (by kernel_rfl) (by kernel_rfl) (by kernel_rfl) (fun _ _ _ h => h) (Or.inl ⟨by rfl, ?_⟩) (by assumption) ?_
      rotate_left
      · (intro w hSw; (try dsimp only at hSw); (try obtain ⟨hS0, hS1⟩ := hSw); go_simp; (try with_reducible rfl))
      (try simp only [List.getElem_toArray, List.getElem_cons_succ, List.getElem_cons_zero, Act.put, List.setIfInBounds_toArray, List.set_cons_zero, List.set_cons_succ])
      refine wpAnyH_take (i := 8) (oi := _) (v := ?_) rfl (by kernel_rfl) (by kernel_rfl) (by kernel_rfl) (fun _ _ _ h => h) (Or.inl ⟨by rfl, ?_⟩) (by assumption) ?_
      rotate_left
      · (intro w hSw; (try dsimp only at hSw); (try obtain ⟨hS0, hS1⟩ := hSw); go_simp; (try with_reducible rfl))
      (try simp only [List.getElem_toArray, List.getElem_cons_succ, List.getElem_cons_zero, Act.put, List.setIfInBounds_toArray, List.set_cons_zero, List.set_cons_succ])
      refine wpAnyH_take (i := 9) (oi := _) (v := ?_) rfl (by kernel_rfl) (by kernel_rfl) (by kernel_rfl) (fun _ _ _ h => h) (Or.inl ⟨by rfl, ?_⟩) (by assumption) ?_
      rotate_left
      · (intro w hSw; (try dsimp only at hSw); (try obtain ⟨hS0, hS1⟩ := hSw); go_simp; (try with_reducible rfl))
      (try simp only [List.getElem_toArray, List.getElem_cons_succ, List.getElem_cons_zero, Act.put, List.setIfInBounds_toArray, List.set_cons_zero, List.set_cons_succ])
      refine wpAnyH_ready (rs := [10]) (by kernel_rfl) (by simp) ?_
      refine AllReadyH.cons (o := _) rfl (fun K hK => ?_) AllReadyH.nil
      go_simp
      refine (HV.out _ (hE.drew)).mono ?_; rintro e w' ⟨rfl, rfl⟩
      refine hK.out _ _ (HK.out _ (hE.drew)) (fun hHeld => ?_); clear hK K
      (try simp only [List.getElem_toArray, List.getElem_cons_succ, List.getElem_cons_zero, Act.put, List.setIfInBounds_toArray, List.set_cons_zero, List.set_cons_succ])
      refine wpAnyH_take (i := 11) (oi := _) (v := ?_) rfl (by kernel_rfl) (by kernel_rfl) (by kernel_rfl) (fun _ _ _ h => h) (Or.inl ⟨by rfl, ?_⟩) (by assumption) ?_
      rotate_left
      · (intro w hSw; (try dsimp only at hSw); (try obtain ⟨hS0, hS1⟩ := hSw); go_simp; (try with_reducible rfl))
      (try simp only [List.getElem_toArray, List.getElem_cons_succ, List.getElem_cons_zero, Act.put, List.setIfInBounds_toArray, List.set_cons_zero, List.set_cons_succ])
      refine wpAnyH_ready (rs := [12]) (by kernel_rfl) (by simp) ?_
      refine AllReadyH.cons (o := _) rfl (fun K hK => ?_) AllReadyH.nil
      go_simp
      refine hK.out _ _ (HK.out _ ((hE.drew).alloc _)) (fun hHeld => ?_); clear hK K
      (try simp only [List.getElem_toArray, List.getElem_cons_succ, List.getElem_cons_zero, Act.put, List.setIfInBounds_toArray, List.set_cons_zero, List.set_cons_succ])
      refine wpAnyH_ready (rs := [13]) (by kernel_rfl) (by simp) ?_
      refine AllReadyH.cons (o := _) rfl (fun K hK => ?_) AllReadyH.nil
      refine step_append_share (base := w.heap.size) (n := o.length) (ll := o) (s := .tmp 14) (x := .tmp 26) (v := ⟨x, v⟩) (by rfl) (by rfl) (by rfl) (by rfl) rfl (Box.new _ _ _) (hR.ext (((Ext.refl wr).drew).alloc _)) (by omega) (by simp; omega) ?_; intro g3 c3 w3 R3 hb3
      refine hK.out _ _ (HK.out _ ((((hE.drew).alloc _)).below hb3 (Nat.le_refl _))) (fun hHeld => ?_); clear hK K
      (try simp only [List.getElem_toArray, List.getElem_cons_succ, List.getElem_cons_zero, Act.put, List.setIfInBounds_toArray, List.set_cons_zero, List.set_cons_succ])
      refine wpAnyH_ready (rs := [14]) (by kernel_rfl) (by simp) ?_
      refine AllReadyH.cons (o := _) rfl (fun K hK => ?_) AllReadyH.nil
      go_simp
      refine hK.out _ _ (HK.out _ ((((hE.drew).alloc _)).below hb3 (Nat.le_refl _))) (fun hHeld => ?_); clear hK K
      (try simp only [List.getElem_toArray, List.getElem_cons_succ, List.getElem_cons_zero, Act.put, List.setIfInBounds_toArray, List.set_cons_zero, List.set_cons_succ])
      refine wpAnyH_done (by kernel_rfl) ?_ _
      have E4 := (((hE.drew).alloc _)).below hb3 (Nat.le_refl _)
      go_wp2
      go_roundw
      case rel => exact ⟨k + 1, _, _, o ++ [⟨x, v⟩], by omega, by go_num, by rw [List.length_append]; rfl, by rw [List.length_append]; simp; omega, HS, R3, E4⟩
      case measure => (first | (simp [intOf]; done) | (simp [intOf]; omega))
    · obtain rfl : k = xs.length := by omega
      have HF := hide (show dl c xs = o by rw [HO.out, List.take_length])
      go_wp2
      go_ret
      exact ⟨s2, c2, by rw [HF.out]; rfl, by rw [HF.out]; exact hR, hE⟩
theorem specDeal (sa sb : Option Addr) (ca cb : Nat) (c xs : List Int) (w : World) (h : Lst w sa c) (h2 : Lst w sb xs) (hl : c.length ≤ 2000000) (hl2 : xs.length ≤ 2000000) (hcap : xs.length ≤ cb) :
    Calls Try.prog 28 #[.slice sa c.length ca, .slice sb xs.length cb] w (RetS (deR c xs) w) := by
  have H := hide h; clear h
  have H2 := hide h2; clear h2
  by_cases hc : cfB c = true
  · by_cases hp : plB xs = true
    · have HF := hide (deR_yes hc hp)
      have HR := hide (cfB_iff.1 hc)
      have HP := hide (plB_iff.1 hp).2.1
      go_enter Try.func28, Try.ntmps28
      go_wp2_with fail; refine (Same.eqB (specvPoly _ _ _ c _ H.out rfl hl) hc).mono ?_; rintro e w' ⟨rfl, rfl⟩
      go_wp2_with fail; refine (Ret.eqB (specPlaces _ _ _ xs _ H2.out rfl hl2 hcap) hp).mono ?_; rintro e w1 ⟨rfl, E1⟩
      go_wp2_with fail; refine (specdeal sa sb ca cb _ c xs _ (H.out.ext E1) (H2.out.ext E1) hl rfl hl2 HR.out.2 HP.out).mono ?_; rintro e w2 ⟨s2, c2, rfl, R2, E2⟩
      have E12 := E1.trans E2
      have R3 := R2.le E1.size
      clear R2
      go_wp2
      go_ret
      exact ⟨s2, c2, by rw [HF.out]; rfl, by rw [HF.out]; exact R3, E12⟩
    · rw [Bool.not_eq_true] at hp
      have HF := hide (deR_no2 (c := c) hp)
      go_enter Try.func28, Try.ntmps28
      go_wp2_with fail; refine (Same.eqB (specvPoly _ _ _ c _ H.out rfl hl) hc).mono ?_; rintro e w' ⟨rfl, rfl⟩
      go_wp2_with fail; refine (Ret.eqB (specPlaces _ _ _ xs _ H2.out rfl hl2 hcap) hp).mono ?_; rintro e w1 ⟨rfl, E1⟩
      go_wp2
      go_ret
      exact RetS.of (base := 0) HF.out (RowS.nil _ _) E1
  · rw [Bool.not_eq_true] at hc
    have HF := hide (deR_no (xs := xs) hc)
    go_enter Try.func28, Try.ntmps28
    go_wp2_with fail; refine (Same.eqB (specvPoly _ _ _ c _ H.out rfl hl) hc).mono ?_; rintro e w' ⟨rfl, rfl⟩
    go_wp2
    go_ret
    exact RetS.of (base := 0) HF.out (RowS.nil _ _) (Ext.refl _)
end Go.Proofs.Ytgmhodmgbhpdaab
