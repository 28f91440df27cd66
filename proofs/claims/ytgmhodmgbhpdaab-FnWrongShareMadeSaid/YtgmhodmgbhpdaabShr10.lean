/- Chapter 4: shares that are refreshed; the polynomial with a secret: contracts of the program and of the model. -/
import Derived.Test.YtgmhodmgbhpdaabShr9
namespace Go.Proofs.Ytgmhodmgbhpdaab
open Go.ChangeShapes Go.WideShapes Go.ChangeAt Go.RowKit Go.Joins Go.Sort
set_option linter.unusedVariables false

/-- shares with a polynomial's values added -/
def rfS (more : List Int) (ll : List Sh) : List Sh := ll.map fun s => ⟨s.x, (s.y + pv (0 :: more) s.x) % 251⟩
theorem rfS_len (more : List Int) (ll : List Sh) : (rfS more ll).length = ll.length := by simp [rfS]
theorem rfS_at (more : List Int) {ll : List Sh} {k : Nat} (h : k < ll.length) : (rfS more ll).getD k Sh.z = ⟨(ll.getD k Sh.z).x, ((ll.getD k Sh.z).y + pv (0 :: more) (ll.getD k Sh.z).x) % 251⟩ := by
  simp [rfS, List.getD_eq_getElem?_getD, h]
theorem rfS_take (more : List Int) {ll : List Sh} {k : Nat} (h : k < ll.length) : (rfS more ll).take k ++ [⟨(ll.getD k Sh.z).x, ((ll.getD k Sh.z).y + pv (0 :: more) (ll.getD k Sh.z).x) % 251⟩] = (rfS more ll).take (k + 1) := by
  have hk : k < (rfS more ll).length := by rw [rfS_len]; exact h
  rw [List.take_succ_eq_append_getElem hk, ← rfS_at more h, List.getD_eq_getElem?_getD, List.getElem?_eq_getElem hk]; rfl
open Classical in
noncomputable def rsR (ll : List Sh) (more : List Int) : List Sh := if svOk ll ∧ cfB (0 :: more) = true then rfS more ll else []
theorem rsR_yes {ll : List Sh} {more : List Int} (h : svOk ll) (h2 : cfB (0 :: more) = true) : rsR ll more = rfS more ll := if_pos ⟨h, h2⟩
theorem rsR_no {ll : List Sh} {more : List Int} (h : ¬ (svOk ll ∧ cfB (0 :: more) = true)) : rsR ll more = [] := if_neg h
theorem rsR_len (ll : List Sh) (more : List Int) : (rsR ll more).length ≤ ll.length := by
  unfold rsR; split
  · rw [rfS_len]; exact Nat.le_refl _
  · exact Nat.zero_le _
theorem dl_xs (c xs : List Int) : xsL (dl c xs) = xs := by
  unfold xsL dl; rw [List.map_map]; exact List.map_id _
theorem dl_ys (c xs : List Int) : rg (ysL (dl c xs)) := fun y hy => by
  unfold ysL dl at hy; rw [List.map_map] at hy
  obtain ⟨x, _, rfl⟩ := List.mem_map.1 hy
  exact pv_bd c x
theorem dl_ok {c xs : List Int} (h : plOk xs) : svOk (dl c xs) := ⟨by rw [dl_xs]; exact h, dl_ys c xs⟩
theorem as_rs {ll : List Sh} (more : List Int) (h : svOk ll) : asR ll (deR (0 :: more) (xsL ll)) = rsR ll more := by
  by_cases hc : cfB (0 :: more) = true
  · rw [rsR_yes h hc, deR_yes hc (plB_yes h.1), asR_yes h (dl_ok h.1) (dl_xs _ _).symm]
    refine ext_sh (by rw [sumS_len (by rw [dl_len, xsL_len]), rfS_len]) fun j hj => ?_
    rw [sumS_len (by rw [dl_len, xsL_len])] at hj
    rw [sumS_at hj (by rw [dl_len, xsL_len]; exact hj), rfS_at more hj, dl_at _ _ (by rw [xsL_len]; exact hj), xsL_at]
  · rw [rsR_no fun h2 => hc h2.2]
    rw [Bool.not_eq_true] at hc
    rw [deR_no hc]
    unfold asR; split
    · exact sumS_nil ll
    · rfl
theorem make1' (n : Nat) (hn : n ≤ 1000000) (w : World) : (Instr.makeSlice 35 (.int .i64 (1 + (n : Int))) (.int .i64 (1 + (n : Int)))).run Try.prog w =
    .ok (.slice (some ⟨w.heap.size, 0, none⟩) (n + 1) (n + 1)) (w.alloc (.cells (ints (zeros (n + 1))) 3)) := by
  rw [Int.add_comm]; exact make1 n hn w
/-- a copy of a list behind the first place of a list that was just made 1 longer -/
theorem copy_one {ops : Array Oper} {rest : List Oper} {o : Oper} {a : Act} {Q : Exit → Act → World → Prop} {wz w1 : World} {sa dp : Option Addr} {cap dn dc n : Nat} {l : List Int} {d s : Operand}
    (ho : o.op = .call { callee := .builtin .copy, args := #[d, s], argTypes := #[35, 35] }) (hgd : o.guard = none) (hw : wz = w1.alloc (.cells (ints (zeros (n + 1))) 3)) (hn : l.length = n)
    (hd : a.eval d = .slice dp dn dc) (hdn : dn = n) (hdp : 0 < n → dp = some ⟨w1.heap.size, 1, none⟩) (hs : a.eval s = .slice sa n cap)
    (h : Lst w1 sa l) (hk : ∀ w2, Arr w2 w1.heap.size (0 :: l) → Ext w1 w2 → wpList Try.prog ops Q rest (a.put o.dst (goInt n)) w2) :
    wpList Try.prog ops Q (o :: rest) a wz := by
  subst hw hn hdn
  have hE := (Ext.refl w1).alloc (.cells (ints (zeros (l.length + 1))) 3)
  refine wpList_copy_splice hgd d s 35 35 ho 3 Try.underlying35 Try.sizeInt dp sa l.length dc l.length cap hd hs w1.heap.size 1 ((zeros (l.length + 1)).map (Value.int .i64)) 3 (Arr.new w1 _) (l.map (Value.int .i64)) (by simp) ?_ (by simp [zeros]; omega) ?_ w1.heap.size w1 hE (Nat.le_refl _) ?_
  · intro h0
    have h1 : 0 < l.length := by simpa using h0
    obtain ⟨ad, e, hc⟩ := (h.ext hE).src (by simpa using h1)
    exact ⟨hdp h1, ad, e, hc⟩
  · intro v hv
    obtain ⟨x, _, rfl⟩ := List.mem_map.1 hv
    rfl
  · intro w2 hg hb
    have e : splice ((zeros (l.length + 1)).map (Value.int .i64)) 1 (l.map (Value.int .i64)) = (0 :: l).map (Value.int .i64) := by
      simp [splice, zeros, List.replicate_succ]; omega
    have hA : Arr w2 w1.heap.size (0 :: l) := by have := hg.out; rw [e] at this; exact this
    have := hk w2 hA hb
    simpa using this
/-- an append of a list in memory to a list of the call's own -/
theorem append_listB {ops : Array Oper} {rest : List Oper} {o : Oper} {a : Act} {Q : Exit → Act → World → Prop} (hgd : o.guard = none) (s x : Operand)
    (ho : o.op = .call { callee := .builtin .append, args := #[s, x], argTypes := #[35, 35] }) (base : Nat) (w1 : World) (sa : Option Addr) (n m cap cx g off : Nat) (l1 l : List Int)
    (hs : a.eval s = .slice sa n cap) (hx : a.eval x = .slice (some ⟨g, off, none⟩) m cx) (hn : l1.length = n) (hm : l.length = m) (R : Row base w1 sa cap l1) (hl1 : n ≤ 2000000) (hl : m ≤ 2000000) (h0 : 0 < m) (hb : base ≤ w1.heap.size)
    (hc : ∀ i, i < l.length → w1.cell? ⟨g, off + i, none⟩ = some (.int .i64 (l.getD i 0)))
    (h : ∀ g cap' w', Row base w' (some ⟨g, 0, none⟩) cap' (l1 ++ l) → Below base w1 w' → wpList Try.prog ops Q rest (a.put o.dst (.slice (some ⟨g, 0, none⟩) (n + m) cap')) w') :
    wpList Try.prog ops Q (o :: rest) a w1 := by
  subst hn hm
  obtain ⟨i0, hi, hz0, hz1, hz2⟩ := info_parts Try.infoInt
  refine wpList_append_own _ hgd s x 35 ho base 3 i0 (.int .i64 0) 1 8 Try.underlying35 hi hz0 hz1 hz2 rfl (by decide) _ _ _ hs R.own ⟨g, off, none⟩ l.length cx (l.map (Value.int .i64)) hx (by simp) ?_ ?_ (by unfold maxLen; omega) (by omega) hb ?_
  · intro j u hj
    rw [List.getElem?_map] at hj
    by_cases hjl : j < l.length
    · have := hc j hjl
      rw [List.getD_eq_getElem?_getD] at this
      rw [List.getElem?_eq_getElem hjl] at hj this
      simp at hj this
      subst hj
      by_cases hj0 : j = 0
      · subst hj0; simpa [Addr.add] using this
      · simpa [Addr.add, hj0] using this
    · rw [List.getElem?_eq_none (by omega)] at hj; simp at hj
  · intro u hu
    obtain ⟨x, _, rfl⟩ := List.mem_map.1 hu
    rfl
  · intro v' w2 hown hgrow hnil
    obtain ⟨g', cap', rfl⟩ := ownsRow_form hown (by omega)
    refine h g' cap' w2 ?_ ((Below.refl _ _).grown hgrow hb fun k hk => (World.ownsRow.lt R.own k hk).1)
    show w2.ownsRow base 3 1 (.slice (some ⟨g', 0, none⟩) (l1 ++ l).length cap') (l1 ++ l).length ((l1 ++ l).map (Value.int .i64))
    rw [List.map_append, List.length_append]; exact hown
set_option maxHeartbeats 1600000 in
theorem implRef (sa sb : Option Addr) (ca cb na nb : Nat) (ll : List Sh) (more : List Int) (w : World) (h : Sst w sa ll) (h2 : Lst w sb more) (hna : ll.length = na) (hnb : more.length = nb) (hl : na ≤ 2000000) (hl2 : nb ≤ 2000000) :
    Calls Try.prog 38 #[.slice sa na ca, .slice sb nb cb] w (RetS (rsR ll more) w) := by
  subst hna
  have H := hide h; clear h
  have H2 := hide h2; clear h2
  have HNB := hide hnb; clear hnb
  by_cases hv : svOk ll; rotate_left
  · have HF := hide (rsR_no (ll := ll) (more := more) fun h => hv h.1)
    have hvb := svB_no hv
    clear hv
    go_enter Try.func38, Try.ntmps38
    go_wp2_with fail; refine (Ret.eqB (implVS _ _ _ ll _ H.out rfl hl) hvb).mono ?_; rintro e w1 ⟨rfl, E1⟩
    go_wp2
    go_ret
    exact RetS.of (base := 0) HF.out (RowS.nil _ _) E1
  have hvb := svB_yes hv
  have h12 := hv.len
  by_cases h8 : (8 : Int) ≤ (nb : Int)
  · have HF := hide (rsR_no (ll := ll) (more := more) fun h => by have := (cfB_iff.1 h.2).1; rw [List.length_cons, HNB.out] at this; omega)
    clear hv
    go_enter Try.func38, Try.ntmps38
    go_wp2_with fail; refine (Ret.eqB (implVS _ _ _ ll _ H.out rfl hl) hvb).mono ?_; rintro e w1 ⟨rfl, E1⟩
    go_wp2
    go_ret
    exact RetS.of (base := 0) HF.out (RowS.nil _ _) E1
  have h8d : decide ((8 : Int) ≤ (nb : Int)) = false := decide_eq_false h8
  have HF := hide (as_rs more hv)
  have HLX := hide (xsL_len ll)
  have HLC := hide (show (0 :: more).length = nb + 1 by rw [List.length_cons, HNB.out])
  have HDL := hide (deR_len (0 :: more) (xsL ll))
  have HXS := hide (fun w2 (e : Ext w w2) => implXs sa ca ll w2 (H.out.ext e) hl)
  obtain ⟨XS, hXS⟩ : ∃ XS, XS = xsL ll := ⟨_, rfl⟩; rw [← hXS] at HF HLX HDL HXS
  obtain ⟨C, hC⟩ : ∃ C, C = (0 :: more) := ⟨_, rfl⟩; rw [← hC] at HF HLC HDL
  obtain ⟨D, hD⟩ : ∃ D, D = deR C XS := ⟨_, rfl⟩; rw [← hD] at HF HDL
  have HCE := hide hC
  have HDE := hide hD
  have hmk := make1' nb (by omega)
  clear hv hXS hC hD
  go_enter Try.func38, Try.ntmps38
  go_wp2_with fail; refine (Ret.eqB (implVS _ _ _ ll _ H.out rfl hl) hvb).mono ?_; rintro e w1 ⟨rfl, E1⟩
  by_cases hnz : nb = 0
  · subst hnz
    have hmk0 : ∀ w, (Instr.makeSlice 35 (.int .i64 1) (.int .i64 1)).run Try.prog w = .ok (.slice (some ⟨w.heap.size, 0, none⟩) 1 1) (w.alloc (.cells (ints (zeros (0 + 1))) 3)) := fun w => run_makeInts 1 (by omega) w
    go_wp2_with ((refine copy_one (w1 := w1) (l := more) (n := 0) (sa := sb) (cap := cb) (d := .tmp 19) (s := .tmp 20) rfl rfl rfl HNB.out rfl (by first | rfl | simp) (fun h => absurd h (Nat.lt_irrefl 0)) rfl (H2.out.ext E1) ?_; intro w2 A2 E2))
    have AC : Arr w2 w1.heap.size C := by rw [HCE.out]; exact A2
    have hCL : C.length = 1 := HLC.out
    have hC8 : C.length ≤ 100 := by omega
    clear A2
    have E12 := E1.trans E2
    have HAL := hide AC.lst
    clear AC
    go_wp2_with fail; refine (HXS.out _ E12).mono ?_; rintro e w3 ⟨s3, c3, rfl, R3, hb3⟩
    have E3 := Ext.of hb3; clear hb3
    have E13 := E12.trans E3
    have HDX := hide (implDeal (some ⟨w1.heap.size, 0, none⟩) s3 1 c3 C XS w3 (HAL.out.ext E3) R3.lst (by omega) (by rw [HLX.out]; omega))
    rw [← HDE.out, hCL] at HDX
    clear hCL
    go_wp2_with fail; refine (HDX.out).mono ?_; rintro e w4 ⟨s4, c4, rfl, R4, E4⟩
    have E14 := E13.trans E4
    have hdl : D.length ≤ ll.length := by have := HDL.out; rw [HLX.out] at this; exact this
    go_wp2_with fail; refine (implAdd sa s4 ca c4 ll.length D.length ll D _ (H.out.ext E14) R4.sst rfl rfl hl (by omega)).mono ?_; rintro e w5 ⟨s5, c5, rfl, R5, E5⟩
    have R6 := R5.le (base' := w.heap.size + 0) E14.size
    clear R3 R4 R5 HAL HXS
    go_wp2
    go_ret
    exact RetS.of (base := 0) HF.out.symm R6 (E14.trans E5)
  · have hnp : 0 < nb := by omega
    have hne1 : nb + 1 ≠ 1 := by omega
    go_wp2_with ((refine copy_one (w1 := w1) (l := more) (n := nb) (sa := sb) (cap := cb) (d := .tmp 19) (s := .tmp 20) rfl rfl rfl HNB.out rfl (by first | rfl | simp) (fun _ => rfl) rfl (H2.out.ext E1) ?_; intro w2 A2 E2))
    have AC : Arr w2 w1.heap.size C := by rw [HCE.out]; exact A2
    have hCL : C.length = nb + 1 := HLC.out
    have hC8 : C.length ≤ 100 := by omega
    clear A2
    have E12 := E1.trans E2
    have HAL := hide AC.lst
    clear AC
    go_wp2_with fail; refine (HXS.out _ E12).mono ?_; rintro e w3 ⟨s3, c3, rfl, R3, hb3⟩
    have E3 := Ext.of hb3; clear hb3
    have E13 := E12.trans E3
    have HDX := hide (implDeal (some ⟨w1.heap.size, 0, none⟩) s3 (nb + 1) c3 C XS w3 (HAL.out.ext E3) R3.lst (by omega) (by rw [HLX.out]; omega))
    rw [← HDE.out, hCL] at HDX
    clear hCL
    go_wp2_with fail; refine (HDX.out).mono ?_; rintro e w4 ⟨s4, c4, rfl, R4, E4⟩
    have E14 := E13.trans E4
    have hdl : D.length ≤ ll.length := by have := HDL.out; rw [HLX.out] at this; exact this
    go_wp2_with fail; refine (implAdd sa s4 ca c4 ll.length D.length ll D _ (H.out.ext E14) R4.sst rfl rfl hl (by omega)).mono ?_; rintro e w5 ⟨s5, c5, rfl, R5, E5⟩
    have R6 := R5.le (base' := w.heap.size + 0) E14.size
    clear R3 R4 R5 HAL HXS
    go_wp2
    go_ret
    exact RetS.of (base := 0) HF.out.symm R6 (E14.trans E5)
set_option maxHeartbeats 1600000 in
theorem specRef (sa sb : Option Addr) (ca cb na nb : Nat) (ll : List Sh) (more : List Int) (w : World) (h : Sst w sa ll) (h2 : Lst w sb more) (hna : ll.length = na) (hnb : more.length = nb) (hl : na ≤ 1500000) (hl2 : nb ≤ 1500000) :
    Calls Try.prog 36 #[.slice sa na ca, .slice sb nb cb] w (RetS (rsR ll more) w) := by
  subst hna
  have H := hide h; clear h
  have H2 := hide h2; clear h2
  have HNB := hide hnb; clear hnb
  have R0 : Row w.heap.size (w.alloc (.cells #[.int .i64 0] 3)) (some ⟨w.heap.size, 0, none⟩) 1 [0] := (Arr.new w [0]).row (Nat.le_refl _) (by simp)
  have E0 := (Ext.refl w).alloc (.cells #[.int .i64 0] 3)
  have HYS := hide (fun (hv : svOk ll) hc => rsR_yes (ll := ll) (more := more) hv hc)
  have HNS := hide (fun (hv : ¬ (svOk ll ∧ cfB (0 :: more) = true)) => rsR_no (ll := ll) (more := more) hv)
  have HAT := hide (fun k (hk : k < ll.length) => rfS_take more hk)
  have HRL := hide (rfS_len more ll)
  have HLC := hide (show (0 :: more).length = nb + 1 by rw [List.length_cons, HNB.out])
  have HRW := hide (show (0 :: more) = [0] ++ more from rfl)
  obtain ⟨C, hC⟩ : ∃ C, C = (0 :: more) := ⟨_, rfl⟩; rw [← hC] at HYS HNS HAT HLC HRW
  have HC := hide hC; clear hC
  go_enter Try.func36, Try.ntmps36
  by_cases hnz : 0 < nb
  · obtain ⟨gm, om, rfl, hgm, hcm⟩ := H2.out.cells (by rw [HNB.out]; exact hnz)
    have HCM := hide (fun i hi => (E0.cell (o := om + i) hgm).trans (hcm i hi))
    clear hcm
    go_wp2_with (first | (at_builtin; refine append_listB rfl (.tmp 8) (.tmp 9) rfl w.heap.size (w.alloc (.cells #[.int .i64 0] 3)) (some ⟨w.heap.size, 0, none⟩) 1 nb 1 cb gm om [0] more rfl rfl rfl HNB.out R0 (by omega) (by omega) hnz (by simp) HCM.out ?_; intro g1 c1 w1 R1 hb1; have E1 := E0.below hb1 (Nat.le_refl _); rw [← HRW.out] at R1; have LC := hide R1.lst; obtain ⟨nc, hnc⟩ : ∃ nc, nc = 1 + nb := ⟨_, rfl⟩; rw [← hnc]; have HNC := hide (show C.length = nc by rw [HLC.out, hnc, Nat.add_comm]); have hncb : nc ≤ 1500001 := (by omega); clear hnc hb1 HCM R1; obtain ⟨sc, hsc⟩ : ∃ sc, sc = some (⟨g1, 0, none⟩ : Addr) := ⟨_, rfl⟩; rw [← hsc] at LC; rw [← hsc]; clear hsc; skip))
    by_cases hv : svOk ll; rotate_left
    · have HF := hide (HNS.out fun h => hv h.1)
      have hvb := svB_no hv
      clear hv
      go_wp2_with fail; refine (Ret.eqB (specvS _ _ _ ll _ (H.out.ext E1) rfl (by omega)) hvb).mono ?_; rintro e w2 ⟨rfl, E2⟩
      go_wp2
      go_ret
      exact RetS.of (base := 0) HF.out (RowS.nil _ _) (E1.trans E2)
    have hvb := svB_yes hv
    have h12 := hv.len
    by_cases hc : cfB C = true; rotate_left
    · have HF := hide (HNS.out fun h => hc h.2)
      rw [Bool.not_eq_true] at hc
      clear hv
      go_wp2_with fail; refine (Ret.eqB (specvS _ _ _ ll _ (H.out.ext E1) rfl (by omega)) hvb).mono ?_; rintro e w2 ⟨rfl, E2⟩
      go_wp2_with fail; refine (Same.eqB (specvPoly _ _ nc C _ (LC.out.ext E2) HNC.out (by omega)) hc).mono ?_; rintro e w' ⟨rfl, rfl⟩
      go_wp2
      go_ret
      exact RetS.of (base := 0) HF.out (RowS.nil _ _) (E1.trans E2)
    have HF := hide (HYS.out hv hc)
    have HG := hide hv.gd
    have HCR := hide (cfB_iff.1 hc).2
    clear hv
    go_wp2_with fail; refine (Ret.eqB (specvS _ _ _ ll _ (H.out.ext E1) rfl (by omega)) hvb).mono ?_; rintro e w2 ⟨rfl, E2⟩
    go_wp2_with fail; refine (Same.eqB (specvPoly _ _ nc C _ (LC.out.ext E2) HNC.out (by omega)) hc).mono ?_; rintro e w' ⟨rfl, rfl⟩
    have E12 := E1.trans E2
    have HS := hide (H.out.ext E12)
    have LC2 := hide (LC.out.ext E2)
    have R2 := RowS.made w2.heap.size w2 (Nat.le_refl _)
    have EE2 := (Ext.refl w2).alloc (.cells #[] 40)
    have hz2 := E12.size
    clear hc hvb E1 E2 LC
    go_wp2
    go_loopw [6, 7] (fun u i wr => ∃ (k : Nat) (s2 : Option Addr) (c2 : Nat) (o : List Sh), k ≤ ll.length ∧ i = .int .i64 k ∧ u = .slice s2 o.length c2 ∧ o.length ≤ k ∧ Hid (o = (rfS more ll).take k) ∧ RowS w2.heap.size wr s2 c2 o ∧ Ext w2 wr) (fun _ i _ => ll.length - (intOf i).toNat)
    case atStart => exact ⟨0, _, 0, [], Nat.zero_le _, rfl, rfl, Nat.le_refl _, (show [] = (rfS more ll).take 0 from rfl), R2, EE2⟩
    case round =>
      clear R2 EE2
      obtain ⟨k, s2, c2, o, hk, rfl, rfl, ho, HO, hR, hE⟩ := hrel
      by_cases hlt : k < ll.length
      · have hki : (k : Int) < (ll.length : Int) := by omega
        obtain ⟨g, off, rfl, hg, q0, q1⟩ := HS.out.at hlt
        have hx := HG.out.x k
        have hy := HG.out.y k
        have HSt := hide (show o ++ [⟨(ll.getD k Sh.z).x, ((ll.getD k Sh.z).y + pv C (ll.getD k Sh.z).x) % 251⟩] = (rfS more ll).take (k + 1) by rw [HO.out]; exact HAT.out k hlt)
        have hp := pv_bd C (ll.getD k Sh.z).x
        obtain ⟨x, hxx⟩ : ∃ x, x = (ll.getD k Sh.z).x := ⟨_, rfl⟩; rw [← hxx] at q0 hx hp HSt
        obtain ⟨y, hyy⟩ : ∃ y, y = (ll.getD k Sh.z).y := ⟨_, rfl⟩; rw [← hyy] at q1 hy HSt
        clear hxx hyy
        have HV := hide (fun w3 cc (e : Ext w2 w3) => specVal sc cc nc C x w3 (LC2.out.ext e) HNC.out (by omega) HCR.out hx.1 hx.2)
        obtain ⟨v, hv⟩ : ∃ v, v = pv C x := ⟨_, rfl⟩; rw [← hv] at hp HSt HV
        obtain ⟨z, hz⟩ : ∃ z, z = (y + v) % 251 := ⟨_, rfl⟩
        rw [← hz] at HSt
        have hs1 : IntKind.i64.wrap (y + v) = y + v := IntWalk.i64_in _ (by omega)
        have hs2 : (y + v).tmod 251 = z := by rw [Int.tmod_eq_emod_of_nonneg (by omega)]; exact hz.symm
        have hs3 : (y + v) % 251 = z := hz.symm
        have HK := hide (fun w3 (e : Ext w2 w3) => And.intro ((e.cell (o := off + k * 2) hg).trans q0) ((e.cell (o := off + k * 2 + 1) hg).trans q1))
        have hzr := hE.size
        clear hv hz HO q0 q1
        go_wp2
        refine wp_region_held_drew (S := (fun w' => w'.cell? ⟨g, off + k * 2, none⟩ = some (.int .i64 x) ∧ w'.cell? ⟨g, off + k * 2 + 1, none⟩ = some (.int .i64 y))) (by kernel_rfl) (by first | exact HK.out _ (hE.drew)) (fun hHeld => ?_)
        refine wpAnyH_take (i := 0) (oi := _) (v := ?_) rfl (by kernel_rfl) (by kernel_rfl) (by kernel_rfl) (fun _ _ _ h => h) (Or.inl ⟨by rfl, ?_⟩) (by assumption) ?_
        rotate_left
        · (intro w hSw; (try dsimp only at hSw); (try obtain ⟨hS0, hS1⟩ := hSw); go_simp; (try with_reducible rfl))
        (try simp only [List.getElem_toArray, List.getElem_cons_zero, Act.put, List.setIfInBounds_toArray, List.set_cons_zero, List.set_cons_succ])
        refine wpAnyH_take (i := 1) (oi := _) (v := ?_) rfl (by kernel_rfl) (by kernel_rfl) (by kernel_rfl) (fun _ _ _ h => h) (Or.inl ⟨by rfl, ?_⟩) (by assumption) ?_
        rotate_left
        · (intro w hSw; (try dsimp only at hSw); (try obtain ⟨hS0, hS1⟩ := hSw); go_simp; (try with_reducible rfl))
        (try simp only [List.getElem_toArray, List.getElem_cons_succ, List.getElem_cons_zero, Act.put, List.setIfInBounds_toArray, List.set_cons_zero, List.set_cons_succ])
        refine wpAnyH_take (i := 2) (oi := _) (v := ?_) rfl (by kernel_rfl) (by kernel_rfl) (by kernel_rfl) (fun _ _ _ h => h) (Or.inl ⟨by rfl, ?_⟩) (by assumption) ?_
        rotate_left
        · (intro w hSw; (try dsimp only at hSw); (try obtain ⟨hS0, hS1⟩ := hSw); go_simp; (try with_reducible rfl))
        (try simp only [List.getElem_toArray, List.getElem_cons_succ, List.getElem_cons_zero, Act.put, List.setIfInBounds_toArray, List.set_cons_zero, List.set_cons_succ])
        refine wpAnyH_take (i := 3) (oi := _) (v := ?_) rfl (by kernel_rfl) (by kernel_rfl) (by kernel_rfl) (fun _ _ _ h => h) (Or.inl ⟨by rfl, ?_⟩) (by assumption) ?_
        rotate_left
        · (intro w hSw; (try dsimp only at hSw); (try obtain ⟨hS0, hS1⟩ := hSw); go_simp; (try with_reducible rfl))
        (try simp only [List.getElem_toArray, List.getElem_cons_succ, List.getElem_cons_zero, Act.put, List.setIfInBounds_toArray, List.set_cons_zero, List.set_cons_succ])
        refine wpAnyH_take (i := 4) (oi := _) (v := ?_) rfl (by kernel_rfl) (by kernel_rfl) (by kernel_rfl) (fun _ _ _ h => h) (Or.inl ⟨by rfl, ?_⟩) (by assumption) ?_
        rotate_left
        · (intro w hSw; (try dsimp only at hSw); (try obtain ⟨hS0, hS1⟩ := hSw); go_simp; (try with_reducible rfl))
        (try simp only [List.getElem_toArray, List.getElem_cons_succ, List.getElem_cons_zero, Act.put, List.setIfInBounds_toArray, List.set_cons_zero, List.set_cons_succ])
        refine wpAnyH_take (i := 5) (oi := _) (v := ?_) rfl (by kernel_rfl) (by kernel_rfl) (by kernel_rfl) (fun _ _ _ h => h) (Or.inl ⟨by rfl, ?_⟩) (by assumption) ?_
        rotate_left
        · (intro w hSw; (try dsimp only at hSw); (try obtain ⟨hS0, hS1⟩ := hSw); go_simp; (try with_reducible rfl))
        (try simp only [List.getElem_toArray, List.getElem_cons_succ, List.getElem_cons_zero, Act.put, List.setIfInBounds_toArray, List.set_cons_zero, List.set_cons_succ])
        refine wpAnyH_take (i := 6) (oi := _) (v := ?_) rfl (by kernel_rfl) (by kernel_rfl) (by kernel_rfl) (fun _ _ _ h => h) (Or.inl ⟨by rfl, ?_⟩) (by assumption) ?_
        rotate_left
        · (intro w hSw; (try dsimp only at hSw); (try obtain ⟨hS0, hS1⟩ := hSw); go_simp; (try with_reducible rfl))
        (try simp only [List.getElem_toArray, List.getElem_cons_succ, List.getElem_cons_zero, Act.put, List.setIfInBounds_toArray, List.set_cons_zero, List.set_cons_succ])
        refine wpAnyH_take (i := 7) (oi := _) (v := ?_) rfl (by kernel_rfl) (by kernel_rfl) (by kernel_rfl) (fun _ _ _ h => h) (Or.inl ⟨by rfl, ?_⟩) (by assumption) ?_
        rotate_left
        · (intro w hSw; (try dsimp only at hSw); (try obtain ⟨hS0, hS1⟩ := hSw); go_simp; (try with_reducible rfl))
        (try simp only [List.getElem_toArray, List.getElem_cons_succ, List.getElem_cons_zero, Act.put, List.setIfInBounds_toArray, List.set_cons_zero, List.set_cons_succ])
        refine wpAnyH_take (i := 8) (oi := _) (v := ?_) rfl (by kernel_rfl) (by kernel_rfl) (by kernel_rfl) (fun _ _ _ h => h) (Or.inl ⟨by rfl, ?_⟩) (by assumption) ?_
        rotate_left
        · (intro w hSw; (try dsimp only at hSw); (try obtain ⟨hS0, hS1⟩ := hSw); go_simp; (try with_reducible rfl))
        (try simp only [List.getElem_toArray, List.getElem_cons_succ, List.getElem_cons_zero, Act.put, List.setIfInBounds_toArray, List.set_cons_zero, List.set_cons_succ])
        refine wpAnyH_take (i := 9) (oi := _) (v := ?_) rfl (by kernel_rfl) (by kernel_rfl) (by kernel_rfl) (fun _ _ _ h => h) (Or.inl ⟨by rfl, ?_⟩) (by assumption) ?_
        rotate_left
        · (intro w hSw; (try dsimp only at hSw); (try obtain ⟨hS0, hS1⟩ := hSw); go_simp; (try with_reducible rfl))
        (try simp only [List.getElem_toArray, List.getElem_cons_succ, List.getElem_cons_zero, Act.put, List.setIfInBounds_toArray, List.set_cons_zero, List.set_cons_succ])
        refine wpAnyH_take (i := 10) (oi := _) (v := ?_) rfl (by kernel_rfl) (by kernel_rfl) (by kernel_rfl) (fun _ _ _ h => h) (Or.inl ⟨by rfl, ?_⟩) (by assumption) ?_
        rotate_left
        · (intro w hSw; (try dsimp only at hSw); (try obtain ⟨hS0, hS1⟩ := hSw); go_simp; (try with_reducible rfl))
        (try simp only [List.getElem_toArray, List.getElem_cons_succ, List.getElem_cons_zero, Act.put, List.setIfInBounds_toArray, List.set_cons_zero, List.set_cons_succ])
        refine wpAnyH_take (i := 11) (oi := _) (v := ?_) rfl (by kernel_rfl) (by kernel_rfl) (by kernel_rfl) (fun _ _ _ h => h) (Or.inl ⟨by rfl, ?_⟩) (by assumption) ?_
        rotate_left
        · (intro w hSw; (try dsimp only at hSw); (try obtain ⟨hS0, hS1⟩ := hSw); go_simp; (try with_reducible rfl))
        (try simp only [List.getElem_toArray, List.getElem_cons_succ, List.getElem_cons_zero, Act.put, List.setIfInBounds_toArray, List.set_cons_zero, List.set_cons_succ])
        refine wpAnyH_take (i := 12) (oi := _) (v := ?_) rfl (by kernel_rfl) (by kernel_rfl) (by kernel_rfl) (fun _ _ _ h => h) (Or.inl ⟨by rfl, ?_⟩) (by assumption) ?_
        rotate_left
        · (intro w hSw; (try dsimp only at hSw); (try obtain ⟨hS0, hS1⟩ := hSw); go_simp; (try with_reducible rfl))
        (try simp only [List.getElem_toArray, List.getElem_cons_succ, List.getElem_cons_zero, Act.put, List.setIfInBounds_toArray, List.set_cons_zero, List.set_cons_succ])
        refine wpAnyH_take (i := 13) (oi := _) (v := ?_) rfl (by kernel_rfl) (by kernel_rfl) (by kernel_rfl) (fun _ _ _ h => h) (Or.inl ⟨by rfl, ?_⟩) (by assumption) ?_
        rotate_left
        · (intro w hSw; (try dsimp only at hSw); (try obtain ⟨hS0, hS1⟩ := hSw); go_simp; (try with_reducible rfl))
        (try simp only [List.getElem_toArray, List.getElem_cons_succ, List.getElem_cons_zero, Act.put, List.setIfInBounds_toArray, List.set_cons_zero, List.set_cons_succ])
        refine wpAnyH_take (i := 14) (oi := _) (v := ?_) rfl (by kernel_rfl) (by kernel_rfl) (by kernel_rfl) (fun _ _ _ h => h) (Or.inl ⟨by rfl, ?_⟩) (by assumption) ?_
        rotate_left
        · (intro w hSw; (try dsimp only at hSw); (try obtain ⟨hS0, hS1⟩ := hSw); go_simp; (try with_reducible rfl))
        (try simp only [List.getElem_toArray, List.getElem_cons_succ, List.getElem_cons_zero, Act.put, List.setIfInBounds_toArray, List.set_cons_zero, List.set_cons_succ])
        refine wpAnyH_take (i := 15) (oi := _) (v := ?_) rfl (by kernel_rfl) (by kernel_rfl) (by kernel_rfl) (fun _ _ _ h => h) (Or.inl ⟨by rfl, ?_⟩) (by assumption) ?_
        rotate_left
        · (intro w hSw; (try dsimp only at hSw); (try obtain ⟨hS0, hS1⟩ := hSw); go_simp; (try with_reducible rfl))
        (try simp only [List.getElem_toArray, List.getElem_cons_succ, List.getElem_cons_zero, Act.put, List.setIfInBounds_toArray, List.set_cons_zero, List.set_cons_succ])
        refine wpAnyH_take (i := 16) (oi := _) (v := ?_) rfl (by kernel_rfl) (by kernel_rfl) (by kernel_rfl) (fun _ _ _ h => h) (Or.inl ⟨by rfl, ?_⟩) (by assumption) ?_
        rotate_left
        · (intro w hSw; (try dsimp only at hSw); (try obtain ⟨hS0, hS1⟩ := hSw); go_simp; (try with_reducible rfl))
        (try simp only [List.getElem_toArray, List.getElem_cons_succ, List.getElem_cons_zero, Act.put, List.setIfInBounds_toArray, List.set_cons_zero, List.set_cons_succ])
        refine wpAnyH_ready (rs := [17]) (by kernel_rfl) (by simp) ?_
        refine AllReadyH.cons (o := _) rfl (fun K hK => ?_) AllReadyH.nil
        go_simp
        refine (HV.out _ _ (hE.drew)).mono ?_; rintro e w' ⟨rfl, rfl⟩
        refine hK.out _ _ (HK.out _ (hE.drew)) (fun hHeld => ?_); clear hK K
        (try simp only [List.getElem_toArray, List.getElem_cons_succ, List.getElem_cons_zero, Act.put, List.setIfInBounds_toArray, List.set_cons_zero, List.set_cons_succ])
        refine wpAnyH_take (i := 18) (oi := _) (v := ?_) rfl (by kernel_rfl) (by kernel_rfl) (by kernel_rfl) (fun _ _ _ h => h) (Or.inl ⟨by rfl, ?_⟩) (by assumption) ?_
        rotate_left
        · (intro w hSw; (try dsimp only at hSw); (try obtain ⟨hS0, hS1⟩ := hSw); go_simp; (try with_reducible rfl))
        (try simp only [List.getElem_toArray, List.getElem_cons_succ, List.getElem_cons_zero, Act.put, List.setIfInBounds_toArray, List.set_cons_zero, List.set_cons_succ])
        refine wpAnyH_take (i := 19) (oi := _) (v := ?_) rfl (by kernel_rfl) (by kernel_rfl) (by kernel_rfl) (fun _ _ _ h => h) (Or.inl ⟨by rfl, ?_⟩) (by assumption) ?_
        rotate_left
        · (intro w hSw; (try dsimp only at hSw); (try obtain ⟨hS0, hS1⟩ := hSw); go_simp; (try with_reducible rfl))
        (try simp only [List.getElem_toArray, List.getElem_cons_succ, List.getElem_cons_zero, Act.put, List.setIfInBounds_toArray, List.set_cons_zero, List.set_cons_succ])
        refine wpAnyH_take (i := 20) (oi := _) (v := ?_) rfl (by kernel_rfl) (by kernel_rfl) (by kernel_rfl) (fun _ _ _ h => h) (Or.inl ⟨by rfl, ?_⟩) (by assumption) ?_
        rotate_left
        · (intro w hSw; (try dsimp only at hSw); (try obtain ⟨hS0, hS1⟩ := hSw); go_simp; (try with_reducible rfl))
        (try simp only [List.getElem_toArray, List.getElem_cons_succ, List.getElem_cons_zero, Act.put, List.setIfInBounds_toArray, List.set_cons_zero, List.set_cons_succ])
        refine wpAnyH_ready (rs := [21]) (by kernel_rfl) (by simp) ?_
        refine AllReadyH.cons (o := _) rfl (fun K hK => ?_) AllReadyH.nil
        go_simp
        refine hK.out _ _ (HK.out _ ((hE.drew).alloc _)) (fun hHeld => ?_); clear hK K
        (try simp only [List.getElem_toArray, List.getElem_cons_succ, List.getElem_cons_zero, Act.put, List.setIfInBounds_toArray, List.set_cons_zero, List.set_cons_succ])
        refine wpAnyH_ready (rs := [22]) (by kernel_rfl) (by simp) ?_
        refine AllReadyH.cons (o := _) rfl (fun K hK => ?_) AllReadyH.nil
        refine step_append_share (base := w2.heap.size) (n := o.length) (ll := o) (s := .tmp 26) (x := .tmp 47) (v := ⟨x, z⟩) (by rfl) (by rfl) (by rfl) (by rfl) rfl (Box.new _ _ _) (hR.ext (((Ext.refl wr).drew).alloc _)) (by omega) (by simp; omega) ?_; intro g3 c3 w3 R3 hb3
        refine hK.out _ _ (HK.out _ ((((hE.drew).alloc _)).below hb3 (Nat.le_refl _))) (fun hHeld => ?_); clear hK K
        (try simp only [List.getElem_toArray, List.getElem_cons_succ, List.getElem_cons_zero, Act.put, List.setIfInBounds_toArray, List.set_cons_zero, List.set_cons_succ])
        refine wpAnyH_ready (rs := [23]) (by kernel_rfl) (by simp) ?_
        refine AllReadyH.cons (o := _) rfl (fun K hK => ?_) AllReadyH.nil
        go_simp
        refine hK.out _ _ (HK.out _ ((((hE.drew).alloc _)).below hb3 (Nat.le_refl _))) (fun hHeld => ?_); clear hK K
        (try simp only [List.getElem_toArray, List.getElem_cons_succ, List.getElem_cons_zero, Act.put, List.setIfInBounds_toArray, List.set_cons_zero, List.set_cons_succ])
        refine wpAnyH_done (by kernel_rfl) ?_ _
        have E4 := (((hE.drew).alloc _)).below hb3 (Nat.le_refl _)
        clear hs1 hs2 hs3 hb3 HK
        go_wp2
        go_roundw
        case rel => exact ⟨k + 1, _, _, o ++ [⟨x, z⟩], by omega, by go_num, by rw [List.length_append]; rfl, by rw [List.length_append]; simp; omega, HSt, R3, E4⟩
        case measure => (first | (simp [intOf]; done) | (simp [intOf]; omega))
      · have hkl : k = ll.length := by omega
        have hki : decide ((k : Int) < (ll.length : Int)) = false := decide_eq_false (by omega)
        have HE := hide (show rsR ll more = o by rw [HF.out, HO.out, hkl, List.take_of_length_le (by rw [HRL.out]; exact Nat.le_refl _)])
        clear hkl
        go_wp2
        go_ret
        exact RetS.of (base := 0) HE.out (hR.le (by omega)) (E12.trans hE)
  · have hnz0 : nb = 0 := by omega
    subst hnz0
    have E1 := E0
    have LC := hide (show Lst (w.alloc (.cells #[.int .i64 0] 3)) (some ⟨w.heap.size, 0, none⟩) C by
      have e : more = [] := List.length_eq_zero_iff.1 HNB.out
      have := R0.lst; rw [HRW.out, e]; exact this)
    have HNC := hide (show C.length = 1 from HLC.out)
    go_wp2_with (first | (at_builtin; refine append_none rfl (.tmp 8) (.tmp 9) rfl (w.alloc (.cells #[.int .i64 0] 3)) (some ⟨w.heap.size, 0, none⟩) sb 1 1 cb rfl rfl (Nat.le_refl _) ?_; obtain ⟨w1, hw1⟩ : ∃ w1, w1 = w.alloc (.cells #[.int .i64 0] 3) := ⟨_, rfl⟩; rw [← hw1] at E1 LC; rw [← hw1]; clear hw1 R0 E0; obtain ⟨sc, hsc⟩ : ∃ sc, sc = some (⟨w.heap.size, 0, none⟩ : Addr) := ⟨_, rfl⟩; rw [← hsc] at LC; rw [← hsc]; clear hsc))
    by_cases hv : svOk ll; rotate_left
    · have HF := hide (HNS.out fun h => hv h.1)
      have hvb := svB_no hv
      clear hv
      go_wp2_with fail; refine (Ret.eqB (specvS _ _ _ ll _ (H.out.ext E1) rfl (by omega)) hvb).mono ?_; rintro e w2 ⟨rfl, E2⟩
      go_wp2
      go_ret
      exact RetS.of (base := 0) HF.out (RowS.nil _ _) (E1.trans E2)
    have hvb := svB_yes hv
    have h12 := hv.len
    by_cases hc : cfB C = true; rotate_left
    · have HF := hide (HNS.out fun h => hc h.2)
      rw [Bool.not_eq_true] at hc
      clear hv
      go_wp2_with fail; refine (Ret.eqB (specvS _ _ _ ll _ (H.out.ext E1) rfl (by omega)) hvb).mono ?_; rintro e w2 ⟨rfl, E2⟩
      go_wp2_with fail; refine (Same.eqB (specvPoly _ _ 1 C _ (LC.out.ext E2) HNC.out (by omega)) hc).mono ?_; rintro e w' ⟨rfl, rfl⟩
      go_wp2
      go_ret
      exact RetS.of (base := 0) HF.out (RowS.nil _ _) (E1.trans E2)
    have HF := hide (HYS.out hv hc)
    have HG := hide hv.gd
    have HCR := hide (cfB_iff.1 hc).2
    clear hv
    go_wp2_with fail; refine (Ret.eqB (specvS _ _ _ ll _ (H.out.ext E1) rfl (by omega)) hvb).mono ?_; rintro e w2 ⟨rfl, E2⟩
    go_wp2_with fail; refine (Same.eqB (specvPoly _ _ 1 C _ (LC.out.ext E2) HNC.out (by omega)) hc).mono ?_; rintro e w' ⟨rfl, rfl⟩
    have E12 := E1.trans E2
    have HS := hide (H.out.ext E12)
    have LC2 := hide (LC.out.ext E2)
    have R2 := RowS.made w2.heap.size w2 (Nat.le_refl _)
    have EE2 := (Ext.refl w2).alloc (.cells #[] 40)
    have hz2 := E12.size
    clear hc hvb E1 E2 LC
    go_wp2
    go_loopw [6, 7] (fun u i wr => ∃ (k : Nat) (s2 : Option Addr) (c2 : Nat) (o : List Sh), k ≤ ll.length ∧ i = .int .i64 k ∧ u = .slice s2 o.length c2 ∧ o.length ≤ k ∧ Hid (o = (rfS more ll).take k) ∧ RowS w2.heap.size wr s2 c2 o ∧ Ext w2 wr) (fun _ i _ => ll.length - (intOf i).toNat)
    case atStart => exact ⟨0, _, 0, [], Nat.zero_le _, rfl, rfl, Nat.le_refl _, (show [] = (rfS more ll).take 0 from rfl), R2, EE2⟩
    case round =>
      clear R2 EE2
      obtain ⟨k, s2, c2, o, hk, rfl, rfl, ho, HO, hR, hE⟩ := hrel
      by_cases hlt : k < ll.length
      · have hki : (k : Int) < (ll.length : Int) := by omega
        obtain ⟨g, off, rfl, hg, q0, q1⟩ := HS.out.at hlt
        have hx := HG.out.x k
        have hy := HG.out.y k
        have HSt := hide (show o ++ [⟨(ll.getD k Sh.z).x, ((ll.getD k Sh.z).y + pv C (ll.getD k Sh.z).x) % 251⟩] = (rfS more ll).take (k + 1) by rw [HO.out]; exact HAT.out k hlt)
        have hp := pv_bd C (ll.getD k Sh.z).x
        obtain ⟨x, hxx⟩ : ∃ x, x = (ll.getD k Sh.z).x := ⟨_, rfl⟩; rw [← hxx] at q0 hx hp HSt
        obtain ⟨y, hyy⟩ : ∃ y, y = (ll.getD k Sh.z).y := ⟨_, rfl⟩; rw [← hyy] at q1 hy HSt
        clear hxx hyy
        have HV := hide (fun w3 cc (e : Ext w2 w3) => specVal sc cc 1 C x w3 (LC2.out.ext e) HNC.out (by omega) HCR.out hx.1 hx.2)
        obtain ⟨v, hv⟩ : ∃ v, v = pv C x := ⟨_, rfl⟩; rw [← hv] at hp HSt HV
        obtain ⟨z, hz⟩ : ∃ z, z = (y + v) % 251 := ⟨_, rfl⟩
        rw [← hz] at HSt
        have hs1 : IntKind.i64.wrap (y + v) = y + v := IntWalk.i64_in _ (by omega)
        have hs2 : (y + v).tmod 251 = z := by rw [Int.tmod_eq_emod_of_nonneg (by omega)]; exact hz.symm
        have hs3 : (y + v) % 251 = z := hz.symm
        have HK := hide (fun w3 (e : Ext w2 w3) => And.intro ((e.cell (o := off + k * 2) hg).trans q0) ((e.cell (o := off + k * 2 + 1) hg).trans q1))
        have hzr := hE.size
        clear hv hz HO q0 q1
        go_wp2
        refine wp_region_held_drew (S := (fun w' => w'.cell? ⟨g, off + k * 2, none⟩ = some (.int .i64 x) ∧ w'.cell? ⟨g, off + k * 2 + 1, none⟩ = some (.int .i64 y))) (by kernel_rfl) (by first | exact HK.out _ (hE.drew)) (fun hHeld => ?_)
        refine wpAnyH_take (i := 0) (oi := _) (v := ?_) rfl (by kernel_rfl) (by kernel_rfl) (by kernel_rfl) (fun _ _ _ h => h) (Or.inl ⟨by rfl, ?_⟩) (by assumption) ?_
        rotate_left
        · (intro w hSw; (try dsimp only at hSw); (try obtain ⟨hS0, hS1⟩ := hSw); go_simp; (try with_reducible rfl))
        (try simp only [List.getElem_toArray, List.getElem_cons_zero, Act.put, List.setIfInBounds_toArray, List.set_cons_zero, List.set_cons_succ])
        refine wpAnyH_take (i := 1) (oi := _) (v := ?_) rfl (by kernel_rfl) (by kernel_rfl) (by kernel_rfl) (fun _ _ _ h => h) (Or.inl ⟨by rfl, ?_⟩) (by assumption) ?_
        rotate_left
        · (intro w hSw; (try dsimp only at hSw); (try obtain ⟨hS0, hS1⟩ := hSw); go_simp; (try with_reducible rfl))
        (try simp only [List.getElem_toArray, List.getElem_cons_succ, List.getElem_cons_zero, Act.put, List.setIfInBounds_toArray, List.set_cons_zero, List.set_cons_succ])
        refine wpAnyH_take (i := 2) (oi := _) (v := ?_) rfl (by kernel_rfl) (by kernel_rfl) (by kernel_rfl) (fun _ _ _ h => h) (Or.inl ⟨by rfl, ?_⟩) (by assumption) ?_
        rotate_left
        · (intro w hSw; (try dsimp only at hSw); (try obtain ⟨hS0, hS1⟩ := hSw); go_simp; (try with_reducible rfl))
        (try simp only [List.getElem_toArray, List.getElem_cons_succ, List.getElem_cons_zero, Act.put, List.setIfInBounds_toArray, List.set_cons_zero, List.set_cons_succ])
        refine wpAnyH_take (i := 3) (oi := _) (v := ?_) rfl (by kernel_rfl) (by kernel_rfl) (by kernel_rfl) (fun _ _ _ h => h) (Or.inl ⟨by rfl, ?_⟩) (by assumption) ?_
        rotate_left
        · (intro w hSw; (try dsimp only at hSw); (try obtain ⟨hS0, hS1⟩ := hSw); go_simp; (try with_reducible rfl))
        (try simp only [List.getElem_toArray, List.getElem_cons_succ, List.getElem_cons_zero, Act.put, List.setIfInBounds_toArray, List.set_cons_zero, List.set_cons_succ])
        refine wpAnyH_take (i := 4) (oi := _) (v := ?_) rfl (by kernel_rfl) (by kernel_rfl) (by kernel_rfl) (fun _ _ _ h => h) (Or.inl ⟨by rfl, ?_⟩) (by assumption) ?_
        rotate_left
        · (intro w hSw; (try dsimp only at hSw); (try obtain ⟨hS0, hS1⟩ := hSw); go_simp; (try with_reducible rfl))
        (try simp only [List.getElem_toArray, List.getElem_cons_succ, List.getElem_cons_zero, Act.put, List.setIfInBounds_toArray, List.set_cons_zero, List.set_cons_succ])
        refine wpAnyH_take (i := 5) (oi := _) (v := ?_) rfl (by kernel_rfl) (by kernel_rfl) (by kernel_rfl) (fun _ _ _ h => h) (Or.inl ⟨by rfl, ?_⟩) (by assumption) ?_
        rotate_left
        · (intro w hSw; (try dsimp only at hSw); (try obtain ⟨hS0, hS1⟩ := hSw); go_simp; (try with_reducible rfl))
        (try simp only [List.getElem_toArray, List.getElem_cons_succ, List.getElem_cons_zero, Act.put, List.setIfInBounds_toArray, List.set_cons_zero, List.set_cons_succ])
        refine wpAnyH_take (i := 6) (oi := _) (v := ?_) rfl (by kernel_rfl) (by kernel_rfl) (by kernel_rfl) (fun _ _ _ h => h) (Or.inl ⟨by rfl, ?_⟩) (by assumption) ?_
        rotate_left
        · (intro w hSw; (try dsimp only at hSw); (try obtain ⟨hS0, hS1⟩ := hSw); go_simp; (try with_reducible rfl))
        (try simp only [List.getElem_toArray, List.getElem_cons_succ, List.getElem_cons_zero, Act.put, List.setIfInBounds_toArray, List.set_cons_zero, List.set_cons_succ])
        refine wpAnyH_take (i := 7) (oi := _) (v := ?_) rfl (by kernel_rfl) (by kernel_rfl) (by kernel_rfl) (fun _ _ _ h => h) (Or.inl ⟨by rfl, ?_⟩) (by assumption) ?_
        rotate_left
        · (intro w hSw; (try dsimp only at hSw); (try obtain ⟨hS0, hS1⟩ := hSw); go_simp; (try with_reducible rfl))
        (try simp only [List.getElem_toArray, List.getElem_cons_succ, List.getElem_cons_zero, Act.put, List.setIfInBounds_toArray, List.set_cons_zero, List.set_cons_succ])
        refine wpAnyH_take (i := 8) (oi := _) (v := ?_) rfl (by kernel_rfl) (by kernel_rfl) (by kernel_rfl) (fun _ _ _ h => h) (Or.inl ⟨by rfl, ?_⟩) (by assumption) ?_
        rotate_left
        · (intro w hSw; (try dsimp only at hSw); (try obtain ⟨hS0, hS1⟩ := hSw); go_simp; (try with_reducible rfl))
        (try simp only [List.getElem_toArray, List.getElem_cons_succ, List.getElem_cons_zero, Act.put, List.setIfInBounds_toArray, List.set_cons_zero, List.set_cons_succ])
        refine wpAnyH_take (i := 9) (oi := _) (v := ?_) rfl (by kernel_rfl) (by kernel_rfl) (by kernel_rfl) (fun _ _ _ h => h) (Or.inl ⟨by rfl, ?_⟩) (by assumption) ?_
        rotate_left
        · (intro w hSw; (try dsimp only at hSw); (try obtain ⟨hS0, hS1⟩ := hSw); go_simp; (try with_reducible rfl))
        (try simp only [List.getElem_toArray, List.getElem_cons_succ, List.getElem_cons_zero, Act.put, List.setIfInBounds_toArray, List.set_cons_zero, List.set_cons_succ])
        refine wpAnyH_take (i := 10) (oi := _) (v := ?_) rfl (by kernel_rfl) (by kernel_rfl) (by kernel_rfl) (fun _ _ _ h => h) (Or.inl ⟨by rfl, ?_⟩) (by assumption) ?_
        rotate_left
        · (intro w hSw; (try dsimp only at hSw); (try obtain ⟨hS0, hS1⟩ := hSw); go_simp; (try with_reducible rfl))
        (try simp only [List.getElem_toArray, List.getElem_cons_succ, List.getElem_cons_zero, Act.put, List.setIfInBounds_toArray, List.set_cons_zero, List.set_cons_succ])
        refine wpAnyH_take (i := 11) (oi := _) (v := ?_) rfl (by kernel_rfl) (by kernel_rfl) (by kernel_rfl) (fun _ _ _ h => h) (Or.inl ⟨by rfl, ?_⟩) (by assumption) ?_
        rotate_left
        · (intro w hSw; (try dsimp only at hSw); (try obtain ⟨hS0, hS1⟩ := hSw); go_simp; (try with_reducible rfl))
        (try simp only [List.getElem_toArray, List.getElem_cons_succ, List.getElem_cons_zero, Act.put, List.setIfInBounds_toArray, List.set_cons_zero, List.set_cons_succ])
        refine wpAnyH_take (i := 12) (oi := _) (v := ?_) rfl (by kernel_rfl) (by kernel_rfl) (by kernel_rfl) (fun _ _ _ h => h) (Or.inl ⟨by rfl, ?_⟩) (by assumption) ?_
        rotate_left
        · (intro w hSw; (try dsimp only at hSw); (try obtain ⟨hS0, hS1⟩ := hSw); go_simp; (try with_reducible rfl))
        (try simp only [List.getElem_toArray, List.getElem_cons_succ, List.getElem_cons_zero, Act.put, List.setIfInBounds_toArray, List.set_cons_zero, List.set_cons_succ])
        refine wpAnyH_take (i := 13) (oi := _) (v := ?_) rfl (by kernel_rfl) (by kernel_rfl) (by kernel_rfl) (fun _ _ _ h => h) (Or.inl ⟨by rfl, ?_⟩) (by assumption) ?_
        rotate_left
        · (intro w hSw; (try dsimp only at hSw); (try obtain ⟨hS0, hS1⟩ := hSw); go_simp; (try with_reducible rfl))
        (try simp only [List.getElem_toArray, List.getElem_cons_succ, List.getElem_cons_zero, Act.put, List.setIfInBounds_toArray, List.set_cons_zero, List.set_cons_succ])
        refine wpAnyH_take (i := 14) (oi := _) (v := ?_) rfl (by kernel_rfl) (by kernel_rfl) (by kernel_rfl) (fun _ _ _ h => h) (Or.inl ⟨by rfl, ?_⟩) (by assumption) ?_
        rotate_left
        · (intro w hSw; (try dsimp only at hSw); (try obtain ⟨hS0, hS1⟩ := hSw); go_simp; (try with_reducible rfl))
        (try simp only [List.getElem_toArray, List.getElem_cons_succ, List.getElem_cons_zero, Act.put, List.setIfInBounds_toArray, List.set_cons_zero, List.set_cons_succ])
        refine wpAnyH_take (i := 15) (oi := _) (v := ?_) rfl (by kernel_rfl) (by kernel_rfl) (by kernel_rfl) (fun _ _ _ h => h) (Or.inl ⟨by rfl, ?_⟩) (by assumption) ?_
        rotate_left
        · (intro w hSw; (try dsimp only at hSw); (try obtain ⟨hS0, hS1⟩ := hSw); go_simp; (try with_reducible rfl))
        (try simp only [List.getElem_toArray, List.getElem_cons_succ, List.getElem_cons_zero, Act.put, List.setIfInBounds_toArray, List.set_cons_zero, List.set_cons_succ])
        refine wpAnyH_take (i := 16) (oi := _) (v := ?_) rfl (by kernel_rfl) (by kernel_rfl) (by kernel_rfl) (fun _ _ _ h => h) (Or.inl ⟨by rfl, ?_⟩) (by assumption) ?_
        rotate_left
        · (intro w hSw; (try dsimp only at hSw); (try obtain ⟨hS0, hS1⟩ := hSw); go_simp; (try with_reducible rfl))
        (try simp only [List.getElem_toArray, List.getElem_cons_succ, List.getElem_cons_zero, Act.put, List.setIfInBounds_toArray, List.set_cons_zero, List.set_cons_succ])
        refine wpAnyH_ready (rs := [17]) (by kernel_rfl) (by simp) ?_
        refine AllReadyH.cons (o := _) rfl (fun K hK => ?_) AllReadyH.nil
        go_simp
        refine (HV.out _ _ (hE.drew)).mono ?_; rintro e w' ⟨rfl, rfl⟩
        refine hK.out _ _ (HK.out _ (hE.drew)) (fun hHeld => ?_); clear hK K
        (try simp only [List.getElem_toArray, List.getElem_cons_succ, List.getElem_cons_zero, Act.put, List.setIfInBounds_toArray, List.set_cons_zero, List.set_cons_succ])
        refine wpAnyH_take (i := 18) (oi := _) (v := ?_) rfl (by kernel_rfl) (by kernel_rfl) (by kernel_rfl) (fun _ _ _ h => h) (Or.inl ⟨by rfl, ?_⟩) (by assumption) ?_
        rotate_left
        · (intro w hSw; (try dsimp only at hSw); (try obtain ⟨hS0, hS1⟩ := hSw); go_simp; (try with_reducible rfl))
        (try simp only [List.getElem_toArray, List.getElem_cons_succ, List.getElem_cons_zero, Act.put, List.setIfInBounds_toArray, List.set_cons_zero, List.set_cons_succ])
        refine wpAnyH_take (i := 19) (oi := _) (v := ?_) rfl (by kernel_rfl) (by kernel_rfl) (by kernel_rfl) (fun _ _ _ h => h) (Or.inl ⟨by rfl, ?_⟩) (by assumption) ?_
        rotate_left
        · (intro w hSw; (try dsimp only at hSw); (try obtain ⟨hS0, hS1⟩ := hSw); go_simp; (try with_reducible rfl))
        (try simp only [List.getElem_toArray, List.getElem_cons_succ, List.getElem_cons_zero, Act.put, List.setIfInBounds_toArray, List.set_cons_zero, List.set_cons_succ])
        refine wpAnyH_take (i := 20) (oi := _) (v := ?_) rfl (by kernel_rfl) (by kernel_rfl) (by kernel_rfl) (fun _ _ _ h => h) (Or.inl ⟨by rfl, ?_⟩) (by assumption) ?_
        rotate_left
        · (intro w hSw; (try dsimp only at hSw); (try obtain ⟨hS0, hS1⟩ := hSw); go_simp; (try with_reducible rfl))
        (try simp only [List.getElem_toArray, List.getElem_cons_succ, List.getElem_cons_zero, Act.put, List.setIfInBounds_toArray, List.set_cons_zero, List.set_cons_succ])
        refine wpAnyH_ready (rs := [21]) (by kernel_rfl) (by simp) ?_
        refine AllReadyH.cons (o := _) rfl (fun K hK => ?_) AllReadyH.nil
        go_simp
        refine hK.out _ _ (HK.out _ ((hE.drew).alloc _)) (fun hHeld => ?_); clear hK K
        (try simp only [List.getElem_toArray, List.getElem_cons_succ, List.getElem_cons_zero, Act.put, List.setIfInBounds_toArray, List.set_cons_zero, List.set_cons_succ])
        refine wpAnyH_ready (rs := [22]) (by kernel_rfl) (by simp) ?_
        refine AllReadyH.cons (o := _) rfl (fun K hK => ?_) AllReadyH.nil
        refine step_append_share (base := w2.heap.size) (n := o.length) (ll := o) (s := .tmp 26) (x := .tmp 47) (v := ⟨x, z⟩) (by rfl) (by rfl) (by rfl) (by rfl) rfl (Box.new _ _ _) (hR.ext (((Ext.refl wr).drew).alloc _)) (by omega) (by simp; omega) ?_; intro g3 c3 w3 R3 hb3
        refine hK.out _ _ (HK.out _ ((((hE.drew).alloc _)).below hb3 (Nat.le_refl _))) (fun hHeld => ?_); clear hK K
        (try simp only [List.getElem_toArray, List.getElem_cons_succ, List.getElem_cons_zero, Act.put, List.setIfInBounds_toArray, List.set_cons_zero, List.set_cons_succ])
        refine wpAnyH_ready (rs := [23]) (by kernel_rfl) (by simp) ?_
        refine AllReadyH.cons (o := _) rfl (fun K hK => ?_) AllReadyH.nil
        go_simp
        refine hK.out _ _ (HK.out _ ((((hE.drew).alloc _)).below hb3 (Nat.le_refl _))) (fun hHeld => ?_); clear hK K
        (try simp only [List.getElem_toArray, List.getElem_cons_succ, List.getElem_cons_zero, Act.put, List.setIfInBounds_toArray, List.set_cons_zero, List.set_cons_succ])
        refine wpAnyH_done (by kernel_rfl) ?_ _
        have E4 := (((hE.drew).alloc _)).below hb3 (Nat.le_refl _)
        clear hs1 hs2 hs3 hb3 HK
        go_wp2
        go_roundw
        case rel => exact ⟨k + 1, _, _, o ++ [⟨x, z⟩], by omega, by go_num, by rw [List.length_append]; rfl, by rw [List.length_append]; simp; omega, HSt, R3, E4⟩
        case measure => (first | (simp [intOf]; done) | (simp [intOf]; omega))
      · have hkl : k = ll.length := by omega
        have hki : decide ((k : Int) < (ll.length : Int)) = false := decide_eq_false (by omega)
        have HE := hide (show rsR ll more = o by rw [HF.out, HO.out, hkl, List.take_of_length_le (by rw [HRL.out]; exact Nat.le_refl _)])
        clear hkl
        go_wp2
        go_ret
        exact RetS.of (base := 0) HE.out (hR.le (by omega)) (E12.trans hE)
end Go.Proofs.Ytgmhodmgbhpdaab
