/- Chapter 2: the points of the choices: contracts of the program and of the model. -/
import Derived.Test.YtjdfdikifiljjacRanks4
import Derived.Test.YtjdfdikifiljjacSets2
import Derived.StillTailTactics
namespace Go.Proofs.Ytjdfdikifiljjac
open Go.ChangeShapes Go.WideShapes Go.ChangeAt Go.RowKit Go.Joins Go.Sort
set_option linter.unusedVariables false

/-- what one list gives to a choice -/
def ptF (rk : List (List Int)) (ch s j : Nat) : Int := (ch : Int) - 1 - plc (rk.getD s []) (j : Int)
/-- the points after S lists and the first k places of the next one -/
def ptQ (rk : List (List Int)) (ch S k : Nat) : List Int := (List.range ch).map fun j => acc (ptF rk ch) j S + if plc (rk.getD S []) (j : Int) < (k : Int) then ptF rk ch S j else 0
theorem ptQ_len (rk : List (List Int)) (ch S k : Nat) : (ptQ rk ch S k).length = ch := by simp [ptQ]
theorem ptQ_at (rk : List (List Int)) (ch S k j : Nat) (h : j < ch) : (ptQ rk ch S k).getD j 0 = acc (ptF rk ch) j S + if plc (rk.getD S []) (j : Int) < (k : Int) then ptF rk ch S j else 0 := by simp [ptQ, List.getD_eq_getElem?_getD, h]
theorem pt_start (rk : List (List Int)) (ch : Nat) : zeros ch = accL (ptF rk ch) ch 0 :=
  getD_ext (by rw [zeros_len, accL_len]) (fun j hj => by rw [zeros_len] at hj; rw [zeros_at, accL_at _ _ _ _ hj]; rfl)
theorem vr_plc {rk : List (List Int)} (h : vr rk = true) {S : Nat} (hS : S < rk.length) {j : Nat} (hj : j < (rk.getD 0 []).length) : 0 ≤ plc (rk.getD S []) (j : Int) ∧ plc (rk.getD S []) (j : Int) ≤ ((rk.getD 0 []).length : Int) - 1 := by
  have hm := vr_mem h hS (x := (j : Int)) (by omega) (by omega)
  have hl := (vr_row h hS).1
  refine ⟨plc_in hm, ?_⟩
  unfold plc
  rw [if_pos hm]
  have := List.idxOf_lt_length_iff.2 hm
  omega
theorem ptQ_zero {rk : List (List Int)} (h : vr rk = true) {S : Nat} (hS : S < rk.length) : accL (ptF rk (rk.getD 0 []).length) (rk.getD 0 []).length S = ptQ rk (rk.getD 0 []).length S 0 := by
  apply getD_ext (by rw [accL_len, ptQ_len])
  intro j hj
  rw [accL_len] at hj
  have := vr_plc h hS hj
  rw [accL_at _ _ _ _ hj, ptQ_at _ _ _ _ _ hj, if_neg (by omega)]; omega
theorem ptQ_full {rk : List (List Int)} (h : vr rk = true) {S : Nat} (hS : S < rk.length) : ptQ rk (rk.getD 0 []).length S (rk.getD 0 []).length = accL (ptF rk (rk.getD 0 []).length) (rk.getD 0 []).length (S + 1) := by
  apply getD_ext (by rw [accL_len, ptQ_len])
  intro j hj
  rw [ptQ_len] at hj
  have := vr_plc h hS hj
  rw [accL_at _ _ _ _ hj, ptQ_at _ _ _ _ _ hj, if_pos (by omega)]; rfl
theorem plc_nodup {r : List Int} {k : Nat} (hn : r.Nodup) (hk : k < r.length) : plc r (r.getD k 0) = k := by
  have e : r.getD k 0 = r[k] := by rw [List.getD_eq_getElem?_getD, List.getElem?_eq_getElem hk]; rfl
  rw [e]
  unfold plc
  rw [if_pos (List.getElem_mem _), hn.idxOf_getElem]
theorem vr_at {rk : List (List Int)} (h : vr rk = true) {S k : Nat} (hS : S < rk.length) (hk : k < (rk.getD 0 []).length) : ∃ c : Nat, c < (rk.getD 0 []).length ∧ (rk.getD S []).getD k 0 = (c : Int) ∧ ∀ j : Nat, j < (rk.getD 0 []).length → (plc (rk.getD S []) (j : Int) = k ↔ j = c) := by
  obtain ⟨hl, hx, hn⟩ := vr_row h hS
  have hk2 : k < (rk.getD S []).length := by omega
  have hm : (rk.getD S []).getD k 0 ∈ rk.getD S [] := getD_mem hk2
  obtain ⟨c, hc⟩ := Int.eq_ofNat_of_zero_le (hx _ hm).1
  have hc2 := (hx _ hm).2
  have hp : plc (rk.getD S []) (c : Int) = k := by rw [← hc]; exact plc_nodup hn hk2
  refine ⟨c, by omega, hc, fun j hj => ⟨fun e => ?_, fun e => by subst e; exact hp⟩⟩
  by_cases hjc : (j : Int) = (c : Int)
  · omega
  · exact absurd (e.trans hp.symm) (plc_ne (vr_mem h hS (by omega) (by omega)) (vr_mem h hS (by omega) (by omega)) hjc)
theorem ptQ_set {rk : List (List Int)} (h : vr rk = true) {S k : Nat} (hS : S < rk.length) (hk : k < (rk.getD 0 []).length) : ∃ c : Nat, c < (rk.getD 0 []).length ∧ (rk.getD S []).getD k 0 = (c : Int) ∧ (ptQ rk (rk.getD 0 []).length S k).getD c 0 = acc (ptF rk (rk.getD 0 []).length) c S ∧
    (ptQ rk (rk.getD 0 []).length S k).set c (acc (ptF rk (rk.getD 0 []).length) c S + (((rk.getD 0 []).length : Int) - 1 - k)) = ptQ rk (rk.getD 0 []).length S (k + 1) := by
  obtain ⟨c, hc, he, hp⟩ := vr_at h hS hk
  have hpc := (hp c hc).2 rfl
  refine ⟨c, hc, he, by rw [ptQ_at _ _ _ _ _ hc, if_neg (by omega)]; omega, ?_⟩
  apply getD_ext (by rw [List.length_set, ptQ_len, ptQ_len])
  intro j hj; rw [List.length_set, ptQ_len] at hj
  rw [set_at _ _ _ _ (by rw [ptQ_len]; exact hc), ptQ_at _ _ _ _ _ hj, ptQ_at _ _ _ _ _ hj]
  have hpj := hp j hj
  by_cases e : j = c
  · subst e
    rw [if_pos rfl, if_pos (by omega)]
    unfold ptF
    rw [hpc]
  · rw [if_neg e]
    have : plc (rk.getD S []) (j : Int) ≠ k := fun h => e (hpj.1 h)
    by_cases h2 : plc (rk.getD S []) (j : Int) < (k : Int)
    · rw [if_pos h2, if_pos (by omega)]
    · rw [if_neg h2, if_neg (by omega)]
theorem pt_bd {rk : List (List Int)} (h : vr rk = true) {S j : Nat} (hS : S ≤ rk.length) (hj : j < (rk.getD 0 []).length) : 0 ≤ acc (ptF rk (rk.getD 0 []).length) j S ∧ acc (ptF rk (rk.getD 0 []).length) j S ≤ 6 * (S : Int) := by
  obtain ⟨_, _, _, h4, _⟩ := vr_iff.1 h
  induction S with
  | zero => simp [acc]
  | succ S ih =>
    have h1 := ih (by omega)
    have h2 := vr_plc h (show S < rk.length by omega) hj
    have e : acc (ptF rk (rk.getD 0 []).length) j (S + 1) = acc (ptF rk (rk.getD 0 []).length) j S + (((rk.getD 0 []).length : Int) - 1 - plc (rk.getD S []) (j : Int)) := rfl
    rw [e, Int.natCast_add]; omega
def ptL (rk : List (List Int)) : List Int := if vr rk = true then accL (ptF rk (rk.getD 0 []).length) (rk.getD 0 []).length rk.length else []
theorem ptL_yes {rk : List (List Int)} (h : vr rk = true) : ptL rk = accL (ptF rk (rk.getD 0 []).length) (rk.getD 0 []).length rk.length := if_pos h
theorem ptL_no {rk : List (List Int)} (h : vr rk = false) : ptL rk = [] := if_neg (by rw [h]; simp)
theorem ptL_len (rk : List (List Int)) : (ptL rk).length ≤ 6 := by
  by_cases h : vr rk = true
  · obtain ⟨_, _, _, h4, _⟩ := vr_iff.1 h
    rw [ptL_yes h, accL_len]; exact h4
  · rw [ptL_no (by rw [Bool.not_eq_true] at h; exact h)]; simp

set_option maxRecDepth 100000 in
set_option maxHeartbeats 2000000 in
theorem implPoints (sa : Option Addr) (cap : Nat) (rk : List (List Int)) (w : World) (h : Mst w sa rk) (hl : rk.length ≤ 2000000) (hr : ∀ i, i < rk.length → (rk.getD i []).length ≤ 2000000) :
    Calls Try.prog 27 #[.slice sa rk.length cap] w (RetList (ptL rk) w) := by
  have H := hide h; clear h
  have HR := hide hr; clear hr
  by_cases hv : vr rk = true
  · obtain ⟨h1, h2, h3, h4, _⟩ := vr_iff.1 hv
    have HF := hide (ptL_yes hv)
    have HZ := hide fun S hS => @ptQ_zero rk hv S hS
    have HU := hide fun S hS => @ptQ_full rk hv S hS
    have HS := hide fun S k hS hk => @ptQ_set rk hv S k hS hk
    have HB := hide fun S j hS hj => @pt_bd rk hv S j hS hj
    have HW := hide fun S hS => (@vr_row rk hv S hS).1
    have HP := hide (pt_start rk (rk.getD 0 []).length)
    obtain ⟨g, off, s0, k0, rfl, hg, c0, _, _⟩ := H.out.at (i := 0) (by omega)
    rw [Nat.add_zero] at c0
    obtain ⟨ch, hch⟩ : ∃ ch, ch = (rk.getD 0 []).length := ⟨_, rfl⟩; rw [← hch] at c0 HF HZ HU HS HB HW HP h3 h4
    clear hch
    have hmk := run_makeInts ch (by omega)
    go_enter Try.func27, Try.ntmps27
    go_wp2_with fail; refine (Same.eqB (implVR _ _ _ _ H.out hl HR.out) hv).mono ?_; rintro e w' ⟨rfl, rfl⟩
    go_wp2
    clear hmk c0
    go_loopw [20] (fun u wr => ∃ S : Nat, S ≤ rk.length ∧ u = .int .i64 S ∧ Arr wr w.heap.size (accL (ptF rk ch) ch S) ∧ Ext w wr) (fun u _ => rk.length - (intOf u).toNat)
    case atStart => exact ⟨0, Nat.zero_le _, rfl, by rw [← HP.out]; exact Arr.new w _, (Ext.refl _).alloc _⟩
    case round =>
      obtain ⟨S, hS, rfl, hA, hE⟩ := hrel
      by_cases hlt : S < rk.length
      · rw [HZ.out S hlt] at hA
        obtain ⟨g1, off1, si, ci, e1, hg1, c1, L1, _⟩ := H.out.at hlt
        cases e1
        have hw := HW.out S hlt
        have HS2 := hide fun k hk => HS.out S k hlt hk
        have HU2 := hide (HU.out S hlt)
        have HB2 := hide fun j hj => HB.out S j hS hj
        obtain ⟨r, hr⟩ : ∃ r, r = rk.getD S [] := ⟨_, rfl⟩; rw [← hr] at c1 L1 hw HS2
        clear hr
        obtain ⟨g2, off2, rfl, hg2, _⟩ := L1.at (k := 0) (by omega)
        have HL0 := hide L1; clear L1
        have c1 := (hE.cell hg1).trans c1
        go_wp2
        clear c1
        go_loopw [26] (fun u wx => ∃ k : Nat, k ≤ ch ∧ u = .int .i64 k ∧ Arr wx w.heap.size (ptQ rk ch S k) ∧ Ext w wx) (fun u _ => ch - (intOf u).toNat)
        case atStart => exact ⟨0, Nat.zero_le _, rfl, hA, hE⟩
        case round =>
          clear hA hE
          obtain ⟨k, hk, rfl, hA, hE⟩ := hrel
          by_cases hlt2 : k < ch
          · obtain ⟨c, hc, he, hat, hset⟩ := HS2.out k hlt2
            obtain ⟨g3, off3, e3, hg3, c2⟩ := (HL0.out.ext hE).at (show k < r.length by omega)
            cases e3
            rw [he] at c2
            have cv := hA.cell (j := c) (by rw [ptQ_len]; exact hc)
            rw [hat] at cv
            have fv := hA.free c
            have hb := HB2.out c hc
            obtain ⟨x, hx⟩ : ∃ x, x = acc (ptF rk ch) c S := ⟨_, rfl⟩; rw [← hx] at cv hb hset
            clear hx he hat
            have HSet := hide hset; clear hset
            go_wp2
            go_roundw
            case rel => exact ⟨k + 1, by omega, by go_num, by rw [← HSet.out]; exact hA.set c _, hE.setCell (Nat.le_refl _) _⟩
            case measure => simp [intOf]; omega
          · obtain rfl : k = ch := by omega
            rw [HU2.out] at hA
            go_wp2
            go_roundw
            case rel => exact ⟨S + 1, by omega, by go_num, hA, hE⟩
            case measure => simp [intOf]; omega
      · obtain rfl : S = rk.length := by omega
        have HL := hide (show (ptL rk).length = ch by rw [HF.out, accL_len])
        go_wp2
        go_ret
        refine ⟨some ⟨w.heap.size, 0, none⟩, ch, by rw [HL.out]; rfl, ?_, hE⟩
        rw [HF.out]
        have := hA.row (base := w.heap.size) (Nat.le_refl _) (by rw [accL_len]; omega)
        rwa [accL_len] at this
  · rw [Bool.not_eq_true] at hv
    have HF := hide (ptL_no hv)
    go_enter Try.func27, Try.ntmps27
    go_wp2_with fail; refine (Same.eqB (implVR _ _ _ _ H.out hl HR.out) hv).mono ?_; rintro e w' ⟨rfl, rfl⟩
    go_wp2
    go_ret
    exact RetList.of (base := 0) HF.out (Row.nil _ _) (Ext.refl _)
set_option maxRecDepth 100000 in
set_option maxHeartbeats 2000000 in
theorem specPts (sa : Option Addr) (cap n : Nat) (rk : List (List Int)) (w : World) (h : Mst w sa rk) (hn : rk.length = n) (hr : ∀ i, i < rk.length → (rk.getD i []).length ≤ 2000000) (hv : vr rk = true) :
    Calls Try.prog 59 #[.slice sa n cap] w (RetList (ptL rk) w) := by
  subst hn
  have H := hide h; clear h
  have HR := hide hr; clear hr
  obtain ⟨h1, h2, h3, h4, _⟩ := vr_iff.1 hv
  have HF := hide (ptL_yes hv)
  have HZ := hide fun S hS => @ptQ_zero rk hv S hS
  have HU := hide fun S hS => @ptQ_full rk hv S hS
  have HS := hide fun S k hS hk => @ptQ_set rk hv S k hS hk
  have HB := hide fun S j hS hj => @pt_bd rk hv S j hS hj
  have HW := hide fun S hS => (@vr_row rk hv S hS).1
  have HP := hide (pt_start rk (rk.getD 0 []).length)
  obtain ⟨g, off, s0, k0, rfl, hg, c0, _, _⟩ := H.out.at (i := 0) (by omega)
  rw [Nat.add_zero] at c0
  obtain ⟨ch, hch⟩ : ∃ ch, ch = (rk.getD 0 []).length := ⟨_, rfl⟩; rw [← hch] at c0 HF HZ HU HS HB HW HP h3 h4
  clear hch
  have hmk := run_makeInts ch (by omega)
  go_enter Try.func59, Try.ntmps59
  go_wp2
  clear hmk c0
  go_loopw [4] (fun u wr => ∃ S : Nat, S ≤ rk.length ∧ u = .int .i64 S ∧ Arr wr w.heap.size (accL (ptF rk ch) ch S) ∧ Ext w wr) (fun u _ => rk.length - (intOf u).toNat)
  case atStart => exact ⟨0, Nat.zero_le _, rfl, by rw [← HP.out]; exact Arr.new w _, (Ext.refl _).alloc _⟩
  case round =>
    obtain ⟨S, hS, rfl, hA, hE⟩ := hrel
    by_cases hlt : S < rk.length
    · rw [HZ.out S hlt] at hA
      obtain ⟨g1, off1, si, ci, e1, hg1, c1, L1, _⟩ := H.out.at hlt
      cases e1
      have hw := HW.out S hlt
      have HS2 := hide fun k hk => HS.out S k hlt hk
      have HU2 := hide (HU.out S hlt)
      have HB2 := hide fun j hj => HB.out S j hS hj
      obtain ⟨r, hr⟩ : ∃ r, r = rk.getD S [] := ⟨_, rfl⟩; rw [← hr] at c1 L1 hw HS2
      clear hr
      rw [hw] at c1
      obtain ⟨g2, off2, rfl, hg2, _⟩ := L1.at (k := 0) (by omega)
      have HL0 := hide L1; clear L1
      have HC1 := hide c1; clear c1
      go_wp2
      go_loopw [5] (fun u wx => ∃ k : Nat, k ≤ ch ∧ u = .int .i64 k ∧ Arr wx w.heap.size (ptQ rk ch S k) ∧ Ext w wx) (fun u _ => ch - (intOf u).toNat)
      case atStart => exact ⟨0, Nat.zero_le _, rfl, hA, hE⟩
      case round =>
        clear hA hE
        obtain ⟨k, hk, rfl, hA, hE⟩ := hrel
        have c1 := (hE.cell hg1).trans HC1.out
        by_cases hlt2 : k < ch
        · obtain ⟨c, hc, he, hat, hset⟩ := HS2.out k hlt2
          obtain ⟨g3, off3, e3, hg3, c2⟩ := (HL0.out.ext hE).at (show k < r.length by omega)
          cases e3
          rw [he] at c2
          have cv := hA.cell (j := c) (by rw [ptQ_len]; exact hc)
          rw [hat] at cv
          have fv := hA.free c
          have hb := HB2.out c hc
          obtain ⟨x, hx⟩ : ∃ x, x = acc (ptF rk ch) c S := ⟨_, rfl⟩; rw [← hx] at cv hb hset
          clear hx he hat
          have HSet := hide (show (ptQ rk ch S k).set c (x + (ch : Int) - 1 - (k : Int)) = ptQ rk ch S (k + 1) by rw [← hset]; congr 1; omega)
          clear hset
          have hm1 : IntKind.i64.wrap (x + (ch : Int)) = x + (ch : Int) := IntWalk.i64_in _ (by omega)
          have hm2 : IntKind.i64.wrap (x + (ch : Int) - 1) = x + (ch : Int) - 1 := IntWalk.i64_in _ (by omega)
          have hm3 : IntKind.i64.wrap (x + (ch : Int) - 1 - (k : Int)) = x + (ch : Int) - 1 - (k : Int) := IntWalk.i64_in _ (by omega)
          go_wp2
          refine wp_region_still_tail 28 (by kernel_rfl) (by kernel_rfl) ?_
          simp only [List.take_succ_cons, List.take_zero, List.drop_succ_cons, List.drop_zero]
          repeat still_step
          refine wpStill_nil ?_
          clear hm1 hm2 hm3
          change wpList _ _ _ _ _ (World.drew _)
          go_wp2
          go_roundw
          case rel => exact ⟨k + 1, by omega, by go_num, by rw [← HSet.out]; exact (hA.set c _).drew, (hE.setCell (Nat.le_refl _) _).drew⟩
          case measure => simp [intOf]; omega
        · obtain rfl : k = ch := by omega
          rw [HU2.out] at hA
          go_wp2
          go_roundw
          case rel => exact ⟨S + 1, by omega, by go_num, hA, hE⟩
          case measure => simp [intOf]; omega
    · obtain rfl : S = rk.length := by omega
      have HL := hide (show (ptL rk).length = ch by rw [HF.out, accL_len])
      go_wp2
      go_ret
      refine ⟨some ⟨w.heap.size, 0, none⟩, ch, by rw [HL.out]; rfl, ?_, hE⟩
      rw [HF.out]
      have := hA.row (base := w.heap.size) (Nat.le_refl _) (by rw [accL_len]; omega)
      rwa [accL_len] at this
set_option maxHeartbeats 1000000 in
theorem specPoints (sa : Option Addr) (cap : Nat) (rk : List (List Int)) (w : World) (h : Mst w sa rk) (hl : rk.length ≤ 2000000) (hr : ∀ i, i < rk.length → (rk.getD i []).length ≤ 2000000) :
    Calls Try.prog 26 #[.slice sa rk.length cap] w (RetList (ptL rk) w) := by
  have H := hide h; clear h
  have HR := hide hr; clear hr
  by_cases hv : vr rk = true
  · go_enter Try.func26, Try.ntmps26
    go_wp2_with fail; refine (Ret.eqB (specvR _ _ _ _ H.out hl HR.out) hv).mono ?_; rintro e w1 ⟨rfl, E1⟩
    go_wp2_with fail; refine (specPts _ _ _ rk _ (H.out.ext E1) rfl HR.out hv).mono ?_; rintro e w2 ⟨s2, c2, rfl, R2, hb⟩
    go_wp2
    go_ret
    exact ⟨s2, c2, rfl, R2.le E1.size, E1.trans (Ext.of hb)⟩
  · rw [Bool.not_eq_true] at hv
    have HF := hide (ptL_no hv)
    go_enter Try.func26, Try.ntmps26
    go_wp2_with fail; refine (Ret.eqB (specvR _ _ _ _ H.out hl HR.out) hv).mono ?_; rintro e w1 ⟨rfl, E1⟩
    go_wp2
    go_ret
    exact RetList.of (base := 0) HF.out (Row.nil _ _) E1
end Go.Proofs.Ytjdfdikifiljjac
