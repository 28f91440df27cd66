/- Chapter 4: the walk of the law of a share that is made wrong, at drawn arguments. -/
import Derived.Test.YtgmhodmgbhpdaabLawK4
import Derived.Test.YtgmhodmgbhpdaabShr8
namespace Go.Proofs.Ytgmhodmgbhpdaab
open Go.ChangeShapes Go.WideShapes Go.ChangeAt Go.RowKit Go.Joins Go.Sort
set_option linter.unusedVariables false

theorem made_at (o : List Sh) (k j : Nat) (v : Int) (hj : j < o.length) : (o.set k ⟨(o.getD k Sh.z).x, v⟩).getD j Sh.z = if j = k then ⟨(o.getD k Sh.z).x, v⟩ else o.getD j Sh.z := by
  split
  · subst_vars; rw [List.getD_eq_getElem?_getD, List.getElem?_set_self hj]; rfl
  · rw [List.getD_eq_getElem?_getD, List.getElem?_set_ne (by omega), ← List.getD_eq_getElem?_getD]
theorem made_ok {o : List Sh} (h : svOk o) (k : Nat) : 0 ≤ (o.getD k Sh.z).y ∧ (o.getD k Sh.z).y ≤ 250 := h.gd.y k
theorem made_sv {o : List Sh} (h : svOk o) (k : Nat) {v : Int} (h0 : 0 ≤ v) (h1 : v ≤ 250) : svOk (o.set k ⟨(o.getD k Sh.z).x, v⟩) := by
  have hl : (o.set k ⟨(o.getD k Sh.z).x, v⟩).length = o.length := List.length_set ..
  have hx : xsL (o.set k ⟨(o.getD k Sh.z).x, v⟩) = xsL o := xs_eq hl fun j hj => by
    rw [hl] at hj; rw [made_at o k j v hj]
    split
    · subst_vars; rfl
    · rfl
  refine ⟨by rw [hx]; exact h.1, fun y hy => ?_⟩
  obtain ⟨j, hj, e⟩ := mem_getD hy
  rw [ysL_len, hl] at hj
  rw [ysL_at, made_at o k j v hj] at e
  have := h.gd.y j
  split at e <;> (rw [← e]; first | exact ⟨h0, h1⟩ | exact this)
theorem made_drp (o : List Sh) (k : Nat) (s : Sh) : drp (o.set k s) k = drp o k := by
  rw [drp_eq, drp_eq, List.eraseIdx_set_eq]
theorem made_ws {c : List Int} {o : List Sh} (h : svOk o) (hr : rg c) (hg : gt c o) (h1 : 1 ≤ c.length) (h8 : c.length ≤ 8) (hl : c.length + 2 ≤ o.length) {k : Nat} (hk : k < o.length) (hk9 : k < 250) :
    wsR (o.set k ⟨(o.getD k Sh.z).x, ((o.getD k Sh.z).y + 1 + (k : Int)) % 251⟩) (c.length : Int) = (k : Int) := by
  have hln : (o.set k ⟨(o.getD k Sh.z).x, ((o.getD k Sh.z).y + 1 + (k : Int)) % 251⟩).length = o.length := List.length_set ..
  have hs := made_sv h k (v := ((o.getD k Sh.z).y + 1 + (k : Int)) % 251) (by omega) (by omega)
  have hd : gt c (drp o k) := gt_sub hg (drp_sub o k)
  refine wsR_at hs h1 h8 (by omega) (fun hf => ?_) (by omega) (by rw [made_drp]; exact ⟨c, rfl, hr, hd⟩)
  obtain ⟨q, q1, q2, q3⟩ := hf
  have hq : gt q (drp o k) := by rw [← made_drp o k]; exact gt_sub q3 (drp_sub _ k)
  have hdl := drp_len hk
  have he : q = c := gt_uniq (h.sub (drp_sub o k)).gd q1 (by omega) q2 hr hq hd
  subst he
  have a1 := q3.at (i := k) (by omega)
  have a2 := hg.at (i := k) hk
  rw [made_at o k k _ hk, if_pos rfl] at a1
  have a3 : (251 : Int) ∣ ev q (o.getD k Sh.z).x - ((o.getD k Sh.z).y + 1 + (k : Int)) % 251 := a1
  generalize ev q (o.getD k Sh.z).x = e at a2 a3
  generalize (o.getD k Sh.z).y = y at a2 a3
  omega
theorem made_no {c : List Int} {o : List Sh} (hg : gt c o) (hr : rg c) (h1 : 1 ≤ c.length) : wsR o (c.length : Int) = -1 :=
  wsR_no fun h => h.2.2.2.2 ⟨c, by simp, hr, hg⟩
set_option maxRecDepth 100000 in
set_option maxHeartbeats 1600000 in
theorem walkFnWrongShareMade (w : World) (sa : Option Addr) (len cap : Nat) (h : Code w sa len cap) (hl : len ≤ maxLen) :
    Calls Try.prog 6 #[.slice sa len cap] w fun e w' => e = .returned (.bool true) ∧ Below w.heap.size w w' := by
  have hl' := hl
  unfold maxLen at hl'
  by_cases hbig : 1048576 < len
  · clear h hl
    go_enter Try.func6, Try.ntmps6
    go_wp2
    go_ret
    exact ⟨rfl, Below.refl _ _⟩
  go_enter Try.func6, Try.ntmps6
  go_wp2_with fail
  refine (dDrawDealShares sa len cap w h hl).mono ?_
  rintro e w1 ⟨sc, cc, c, sx, cx, xs, rfl, RA, RB, na, nb, E1⟩
  clear h hl hl' hbig
  have HLC := hide RA.lst
  have HLX := hide RB.lst
  have hcap := RB.cap
  clear RA RB
  have HP1 := hide (fun w2 (e : Ext w1 w2) => implDeal sc sx cc cx c xs w2 (HLC.out.ext e) (HLX.out.ext e) (by omega) (by omega))
  have HP2 := hide (fun w2 (e : Ext w1 w2) => specDeal sc sx cc cx c xs w2 (HLC.out.ext e) (HLX.out.ext e) (by omega) (by omega) hcap)
  have hol := deR_len c xs
  have HDF := hide (@de_facts c xs)
  obtain ⟨o, ho⟩ : ∃ o, o = deR c xs := ⟨_, rfl⟩; rw [← ho] at HP1 HP2 hol HDF
  clear ho
  by_cases hc1 : 0 < c.length; rotate_left
  · have hc0 : c = [] := List.length_eq_zero_iff.1 (by omega)
    subst hc0
    clear hc1 HDF
    go_wp2_with fail; refine (HP1.out _ (Ext.refl _)).mono ?_; rintro e w2 ⟨s2, c2, rfl, R2, E2⟩
    go_wp2_with fail; refine (HP2.out _ E2).mono ?_; rintro e w3 ⟨s3, c3, rfl, R3, E3⟩
    go_wp2_with fail; refine (equalShares_yes s2 s3 o o.length c2 c3 _ (R2.sst.ext E3) R3.sst rfl (by omega)).mono ?_; rintro e w4 ⟨rfl, E4⟩
    have E24 := E3.trans E4
    have E14 := E2.trans E24
    go_wp2_with fail; refine (HP2.out _ E14).mono ?_; rintro e w5 ⟨s5, c5, rfl, R5, E5⟩
    go_wp2_with fail; refine (equalShares_yes s2 s5 o o.length c2 c5 _ (R2.sst.ext (E24.trans E5)) R5.sst rfl (by omega)).mono ?_; rintro e w6 ⟨rfl, E6⟩
    go_wp2
    go_ret
    exact ⟨rfl, E1.trans (E14.trans (E5.trans E6))⟩
  have hcn : ((c.length : Int) == 0) = false := by rw [beq_eq_false_iff_ne]; omega
  have hwl : IntKind.i64.wrap ((c.length : Int) + 2) = (c.length : Int) + 2 := IntWalk.i64_in _ (by omega)
  by_cases hlc : c.length + 2 ≤ o.length; rotate_left
  · have hcoi : (o.length : Int) < (c.length : Int) + 2 := by omega
    clear HDF
    go_wp2_with fail; refine (HP1.out _ (Ext.refl _)).mono ?_; rintro e w2 ⟨s2, c2, rfl, R2, E2⟩
    go_wp2_with fail; refine (HP2.out _ E2).mono ?_; rintro e w3 ⟨s3, c3, rfl, R3, E3⟩
    go_wp2_with fail; refine (equalShares_yes s2 s3 o o.length c2 c3 _ (R2.sst.ext E3) R3.sst rfl (by omega)).mono ?_; rintro e w4 ⟨rfl, E4⟩
    have E24 := E3.trans E4
    have E14 := E2.trans E24
    go_wp2_with fail; refine (HP2.out _ E14).mono ?_; rintro e w5 ⟨s5, c5, rfl, R5, E5⟩
    go_wp2_with fail; refine (equalShares_yes s2 s5 o o.length c2 c5 _ (R2.sst.ext (E24.trans E5)) R5.sst rfl (by omega)).mono ?_; rintro e w6 ⟨rfl, E6⟩
    go_wp2
    go_ret
    exact ⟨rfl, E1.trans (E14.trans (E5.trans E6))⟩
  have hcoi : ¬ (o.length : Int) < (c.length : Int) + 2 := by omega
  have h0 : 0 < o.length := by omega
  obtain ⟨hox, h8, hv, hr, hg⟩ := HDF.out h0
  have h6 : c.length ≤ 6 := by omega
  have HVS := hide (@made_ok o hv)
  have HWS := hide (fun i (hi : i < o.length) => made_ws hv hr hg hc1 h8 hlc hi (by omega))
  have HW0 := hide (made_no hg hr hc1 (c := c) (o := o))
  clear hv hr hg hox
  go_wp2_with fail; refine (HP1.out _ (Ext.refl _)).mono ?_; rintro e w2 ⟨s2, c2, rfl, R2, E2⟩
  go_wp2_with fail; refine (HP2.out _ E2).mono ?_; rintro e w3 ⟨s3, c3, rfl, R3, E3⟩
  go_wp2_with fail; refine (equalShares_yes s2 s3 o o.length c2 c3 _ (R2.sst.ext E3) R3.sst rfl (by omega)).mono ?_; rintro e w4 ⟨rfl, E4⟩
  have E24 := E3.trans E4
  have E14 := E2.trans E24
  have hoc := R2.cap
  have HR2 := hide (R2.sst.ext E24)
  clear R2 R3
  go_wp2
  go_loopw [6] (fun i wr => ∃ k : Nat, k ≤ o.length ∧ i = .int .i64 k ∧ Ext w4 wr) (fun i _ => o.length - (intOf i).toNat)
  case atStart => exact ⟨0, Nat.zero_le _, rfl, Ext.refl _⟩
  case round =>
    obtain ⟨k, hk, rfl, hE⟩ := hrel
    by_cases hlt : k < o.length
    · have hki : (k : Int) < (o.length : Int) := by omega
      have R0 := RowS.made wr.heap.size wr (Nat.le_refl _)
      have EA := (Ext.refl wr).alloc (.cells #[] 40)
      have HAO := hide (HR2.out.ext (hE.trans EA))
      go_wp2_with (first | (at_builtin; refine append_shares rfl (.tmp 49) (.tmp 50) rfl wr.heap.size (wr.alloc (.cells #[] 40)) (some ⟨wr.heap.size, 0, none⟩) s2 0 o.length 0 c2 [] o rfl rfl rfl rfl R0 (by omega) (by omega) (by simp) HAO.out ?_; intro sb cb w3 RB hb3; have H3 := hide hb3; clear hb3))
      have E8 := EA.below H3.out (Nat.le_refl _)
      clear H3 R0 EA HAO
      have RB2 : RowS wr.heap.size w3 sb cb o := RB
      clear RB
      obtain ⟨b, rfl, hb, hbl, fz, cz⟩ := RB2.spot (show 0 < o.length by omega)
      have f1 := fz (k * 2 + 1)
      have c1 := (cz k hlt).2
      have hy := HVS.out k
      have HW := hide (HWS.out k hlt)
      have RS := fun v => RB2.storeY hlt v
      have HRS := hide RS
      clear fz cz RS RB2
      obtain ⟨y, hyd⟩ : ∃ y, y = (o.getD k Sh.z).y := ⟨_, rfl⟩
      rw [← hyd] at c1 hy
      have HYD := hide hyd
      clear hyd
      have hs1 : IntKind.i64.wrap (y + 1) = y + 1 := IntWalk.i64_in _ (by omega)
      have hs2 : IntKind.i64.wrap (y + 1 + k) = y + 1 + k := IntWalk.i64_in _ (by omega)
      obtain ⟨z, hz⟩ : ∃ z, z = (y + 1 + k) % 251 := ⟨_, rfl⟩
      have hs3 : (y + 1 + k).tmod 251 = z := by rw [Int.tmod_eq_emod_of_nonneg (by omega)]; exact hz.symm
      have hs4 : (y + 1 + k) % 251 = z := hz.symm
      have HZW := hide (show wsR (o.set k ⟨(o.getD k Sh.z).x, z⟩) (c.length : Int) = (k : Int) by rw [hz, HYD.out]; exact HW.out)
      have HLN := hide (show (o.set k ⟨(o.getD k Sh.z).x, z⟩).length = o.length by rw [List.length_set])
      clear hz HW
      go_wp2
      go_simp
      go_wp2_with fail
      have R9 := HRS.out z
      have hcb := R9.cap
      rw [HLN.out] at hcb
      have E9 := E8.setCell (o := k * 2 + 1) hb (.int .i64 z)
      refine (implWS (some ⟨b, 0, none⟩) cb o.length (o.set k ⟨(o.getD k Sh.z).x, z⟩) c.length _ R9.sst HLN.out (by omega) hcb).mono ?_
      rintro e w7 ⟨rfl, E7⟩
      rw [HZW.out]
      have hkk : ((k : Int) != k) = false := by simp
      go_wp2
      go_roundw
      case rel => exact ⟨k + 1, by omega, by go_num, hE.trans (E9.trans E7)⟩
      case measure => (first | (simp [intOf]; done) | (simp [intOf]; omega))
    · have hki : decide ((k : Int) < (o.length : Int)) = false := decide_eq_false (by omega)
      go_wp2_with fail; refine (implWS _ c2 o.length o c.length _ (HR2.out.ext hE) rfl (by omega) hoc).mono ?_; rintro e w6 ⟨rfl, E6⟩
      rw [HW0.out]
      go_wp2
      go_ret
      exact ⟨rfl, E1.trans (E14.trans (hE.trans E6))⟩
end Go.Proofs.Ytgmhodmgbhpdaab
