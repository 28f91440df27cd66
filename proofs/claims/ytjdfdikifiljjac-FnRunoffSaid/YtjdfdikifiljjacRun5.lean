/- Chapter 2: the runoff, by the document's own way. -/
import Derived.Test.YtjdfdikifiljjacRun4
import Derived.Test.YtjdfdikifiljjacAppL
namespace Go.Proofs.Ytjdfdikifiljjac
open Go.ChangeShapes Go.WideShapes Go.ChangeAt Go.RowKit Go.Joins Go.Sort
set_option linter.unusedVariables false

def lenV : Value → Nat
  | .slice _ n _ => n
  | _ => 0
theorem fstS_idx {r : List Int} {s : Nat} {x : Int} (hx : x ∈ r) (h : s.testBit x.toNat = true) : ∃ i, i < r.length ∧ fstS r s = r.getD i 0 ∧ s.testBit (r.getD i 0).toNat = true ∧ ∀ a, a < i → s.testBit (r.getD a 0).toNat = false := by
  induction r with
  | nil => exact absurd hx (by simp)
  | cons y t ih =>
    unfold fstS
    by_cases hy : s.testBit y.toNat = true
    · rw [if_pos hy]; exact ⟨0, by simp, by simp, by simpa using hy, fun a ha => absurd ha (Nat.not_lt_zero _)⟩
    · rw [if_neg hy]
      rcases List.mem_cons.1 hx with rfl | hx
      · exact absurd h hy
      · obtain ⟨i, h1, h2, h3, h4⟩ := ih hx
        refine ⟨i + 1, by simpa using h1, by simpa using h2, by simpa using h3, fun a ha => ?_⟩
        match a with
        | 0 => rw [Bool.not_eq_true] at hy; simpa using hy
        | a + 1 => simpa using h4 a (by omega)
theorem mems_bit {s : Nat} {x : Int} (h0 : 0 ≤ x) (h1 : x ≤ 19) : x ∈ mems s ↔ s.testBit x.toNat = true :=
  ⟨fun h => by obtain ⟨i, _, h2, rfl⟩ := filK_mem.1 h; rwa [Int.toNat_natCast], fun h => filK_mem.2 ⟨x.toNat, by omega, h, by omega⟩⟩
theorem row_first {rk : List (List Int)} (hv : vr rk = true) {j : Nat} (hj : j < (rk.getD 0 []).length) {S : Nat} (hS : S < rk.length) : ∃ i m : Nat, i < (rk.getD 0 []).length ∧ m < (rk.getD 0 []).length ∧ (rk.getD S []).getD i 0 = (m : Int) ∧ fstS (rk.getD S []) (lfN rk j) = (m : Int) ∧ (m : Int) ∈ mems (lfN rk j) ∧ ∀ a, a < i → (rk.getD S []).getD a 0 ∉ mems (lfN rk j) := by
  obtain ⟨_, _, _, h6, _⟩ := vr_iff.1 hv
  have hl := lf_len (rk := rk) (by omega) j (by omega)
  obtain ⟨hw, hx, _⟩ := vr_row hv hS
  have hm : (mems (lfN rk j)).getD 0 0 ∈ mems (lfN rk j) := getD_mem (by omega)
  obtain ⟨i, h1, h2, h3⟩ := filK_mem.1 hm
  have hi : i < (rk.getD 0 []).length := by
    by_cases hi : i < (rk.getD 0 []).length
    · exact hi
    · have := Nat.testBit_lt_two_pow (Nat.lt_of_lt_of_le (lf_lt rk j) (pow_le (show (rk.getD 0 []).length ≤ i by omega)))
      rw [this] at h2; simp at h2
  obtain ⟨a, h4, h5, h7, h8⟩ := fstS_idx (vr_mem hv hS (x := (i : Int)) (by omega) (by omega)) (s := lfN rk j) (by rw [Int.toNat_natCast]; exact h2)
  obtain ⟨y0, y1⟩ := hx _ (getD_mem h4)
  obtain ⟨m, hme⟩ := Int.eq_ofNat_of_zero_le y0
  refine ⟨a, m, by omega, by omega, hme, by rw [h5, hme], by rw [← hme]; exact (mems_bit y0 (by omega)).2 h7, fun b hb => ?_⟩
  obtain ⟨z0, z1⟩ := hx _ (getD_mem (show b < (rk.getD S []).length by omega))
  intro hc
  have := (mems_bit z0 (by omega)).1 hc
  rw [h8 b hb] at this; simp at this

theorem fr_start (rk : List (List Int)) (s n : Nat) : zeros n = accL (frF rk s) n 0 := by
  refine getD_ext (by simp [zeros, accL]) fun j hj => ?_
  rw [zeros_len] at hj; rw [zeros_at, accL_at _ _ _ _ hj]; rfl

theorem arrN {w : World} {g n s : Nat} {rk : List (List Int)} (hA : Arr w g (accL (frF rk s) n rk.length)) : ∀ m : Nat, m < n → w.cell? ⟨g, m, none⟩ = some (.int .i64 (frN rk s (m : Int))) := fun m hm => by
  have cv := hA.cell (j := m) (by rw [accL_len]; exact hm)
  rw [accL_at _ _ _ _ hm] at cv
  exact cv

set_option maxRecDepth 100000 in
set_option maxHeartbeats 2000000 in
theorem specRo (sa : Option Addr) (cap n : Nat) (rk : List (List Int)) (w : World) (h : Mst w sa rk) (hn : rk.length = n) (hr : ∀ i, i < rk.length → (rk.getD i []).length ≤ 2000000) (hv : vr rk = true) :
    Calls Try.prog 60 #[.slice sa n cap] w (Ret (.int .i64 (roF rk)) w) := by
  subst hn
  have H := hide h; clear h
  have HR := hide hr; clear hr
  obtain ⟨h1, h2, h3, h4, _⟩ := vr_iff.1 hv
  have HW := hide fun S hS => (@vr_row rk hv S hS).1
  have HRF := hide fun j hj S hS => @row_first rk hv j hj S hS
  have HLL := hide fun j hj => lf_len (rk := rk) (by omega) j hj
  have HFI := hide (ro_last hv)
  have HST := hide fun j hj => @lf_strike rk hv j hj
  have HM0 := hide (show filK (2 ^ (rk.getD 0 []).length - 1).testBit (rk.getD 0 []).length = mems (lfN rk 0) from (mems_at (lf_lt rk 0) (by omega)).symm)
  obtain ⟨g, off, s0, k0, e, hg, c0, _, _⟩ := H.out.at (i := 0) (by omega)
  cases e
  rw [Nat.add_zero] at c0
  obtain ⟨ch, hch⟩ : ∃ ch, ch = (rk.getD 0 []).length := ⟨_, rfl⟩
  rw [← hch] at c0 h3 h4 HW HRF HLL HFI HST HM0
  have HCH := hide hch; clear hch
  have HC0 := hide c0; clear c0
  have hmk := run_makeInts ch (by omega)
  go_enter Try.func60, Try.ntmps60
  go_wp2
  go_loopw [3, 4] (fun v i wr => ∃ (c b c3 : Nat) (o : List Int), c ≤ ch ∧ i = .int .i64 c ∧ v = .slice (some ⟨b, 0, none⟩) c c3 ∧ Hid (o.length = c) ∧ Hid (o = filK (2 ^ ch - 1).testBit c) ∧ Row w.heap.size wr (some ⟨b, 0, none⟩) c3 o ∧ Ext w wr) (fun _ i _ => ch - (intOf i).toNat)
  case atStart => exact ⟨0, w.heap.size, 0, [], by omega, rfl, rfl, rfl, rfl, Row.madeAt _ _ w rfl (Nat.le_refl _), (Ext.refl _).alloc _⟩
  case round =>
    obtain ⟨c, b, c3, o, hc, rfl, rfl, HO, HQ, hR, hE⟩ := hrel
    have c0 := (hE.cell hg).trans HC0.out
    by_cases hlt : c < ch
    · have hd : decide ((c : Int) < (ch : Int)) = true := decide_eq_true (by omega)
      have HQ2 := hide (show o ++ [(c : Int)] = filK (2 ^ ch - 1).testBit (c + 1) by
        rw [HQ.out]; exact filK_yes (by rw [Nat.testBit_two_pow_sub_one]; exact decide_eq_true hlt))
      go_wp2_with (first | (at_builtin; refine append_int_atN rfl (.tmp 20) (.tmp 22) rfl w.heap.size wr b c c3 o (c : Int) _ rfl rfl HO.out hR (by omega) hE.size ?_; intro g6 c6 w6 R6 hb6 hg6 hk6))
      have E6 := Ext.of (Below.trans hE hb6)
      clear hb6 hg6 hk6
      go_wp2
      go_roundw
      case rel => exact ⟨c + 1, g6, c6, _, by omega, by go_num, rfl, (show (o ++ [(c : Int)]).length = c + 1 by rw [List.length_append, HO.out]; rfl), HQ2, R6, E6⟩
      case measure => simp [intOf]; omega
    · obtain rfl : c = ch := by omega
      have hd : decide ((c : Int) < (c : Int)) = false := decide_eq_false (by omega)
      have HQ1 := hide (show o = mems (lfN rk 0) by rw [HQ.out, HM0.out])
      go_wp2
      go_loopw [3] (fun v wr => ∃ (j k b c3 : Nat) (o : List Int), k + j ≤ c ∧ c ≤ k + j ∧ 1 ≤ k ∧ v = .slice (some ⟨b, 0, none⟩) k c3 ∧ Hid (o.length = k) ∧ Hid (o = mems (lfN rk j)) ∧ Row w.heap.size wr (some ⟨b, 0, none⟩) c3 o ∧ Ext w wr) (fun v _ => lenV v)
      case atStart => exact ⟨0, c, b, c3, o, by omega, by omega, by omega, rfl, HO, HQ1, hR, hE⟩
      case round =>
        clear hR hE HO HQ HQ1 c0 hd hlt hc
        obtain ⟨j, k, b, c3, o, hk1, hk2, hk3, rfl, HO, HQ, hR, hE⟩ := hrel
        have c0 := (hE.cell hg).trans HC0.out
        by_cases hlt : 1 < k
        · have hd : decide ((1 : Int) < (k : Int)) = true := decide_eq_true (by omega)
          have HR1 := hide fun S hS => HRF.out j (by omega) S hS
          have HS1 := hide (HST.out j (by omega))
          have HA0 := hide (show zeros c = accL (frF rk (lfN rk j)) c 0 from fr_start _ _ _)
          have HMM := hide (fun i => @mems_minus (lfN rk j) i)
          have HMI := hide (show ∀ i, i < o.length → ∃ m : Nat, m < c ∧ o.getD i 0 = (m : Int) from fun i hi => by
            rw [HQ.out] at hi ⊢
            obtain ⟨m, _, h5, h6⟩ := filK_mem.1 (getD_mem hi : (mems (lfN rk j)).getD i 0 ∈ mems (lfN rk j))
            refine ⟨m, ?_, h6⟩
            by_cases hm : m < c
            · exact hm
            · have := Nat.testBit_lt_two_pow (Nat.lt_of_lt_of_le (lf_lt rk j) (pow_le (show (rk.getD 0 []).length ≤ m by rw [← HCH.out]; omega)))
              rw [this] at h5; simp at h5)
          have HWK := hide (show wkst rk (lfN rk j) = (wkK (frN rk (lfN rk j)) o rk.length o.length).1 by rw [HQ.out]; rfl)
          have HLF := hide (show lfN rk (j + 1) = minus (lfN rk j) (wkst rk (lfN rk j)).toNat from rfl)
          obtain ⟨s, hs⟩ : ∃ s, s = lfN rk j := ⟨_, rfl⟩
          rw [← hs] at HQ HR1 HS1 HA0 HMM HWK HLF
          clear hs
          go_wp2
          clear c0
          go_loopw [6] (fun u wx => ∃ S : Nat, S ≤ rk.length ∧ u = .int .i64 S ∧ Arr wx wr.heap.size (accL (frF rk s) c S) ∧ Ext wr wx) (fun u _ => rk.length - (intOf u).toNat)
          case atStart => exact ⟨0, Nat.zero_le _, rfl, by rw [← HA0.out]; exact Arr.new wr _, (Ext.refl _).alloc _⟩
          case round =>
            obtain ⟨S, hS, rfl, hA, hF⟩ := hrel
            by_cases hltS : S < rk.length
            · have hdS : decide ((S : Int) < (rk.length : Int)) = true := decide_eq_true (by omega)
              obtain ⟨i0, m, hi0, hm, hri, hfs, hmo, hno⟩ := HR1.out S hltS
              have cv := hA.cell (j := m) (by rw [accL_len]; exact hm)
              rw [accL_at _ _ _ _ hm] at cv
              have fv := hA.free m
              have hb := fr_bd rk s m S
              have HSet := hide (show (accL (frF rk s) c S).set m (acc (frF rk s) m S + 1) = accL (frF rk s) c (S + 1) by
                rw [← fr_set (rk := rk) (s := s) (n := c) hm hfs, accL_at _ _ _ _ hm])
              obtain ⟨x, hx⟩ : ∃ x, x = acc (frF rk s) m S := ⟨_, rfl⟩; rw [← hx] at cv hb HSet
              clear hx
              obtain ⟨g1, off1, si, ci, e1, hg1, c1, L1, _⟩ := (H.out.ext (hE.trans hF)).at hltS
              cases e1
              have hw := HW.out S hltS
              rw [← HQ.out] at hmo hno
              have HRI := hide hri; clear hri
              have HNO := hide hno; clear hno
              have HMO := hide hmo; clear hmo
              clear hfs
              obtain ⟨r, hr⟩ : ∃ r, r = rk.getD S [] := ⟨_, rfl⟩; rw [← hr] at c1 L1 hw HRI HNO
              clear hr
              rw [hw] at c1
              have HWR := hide hw; clear hw
              obtain ⟨g2, off2, rfl, hg2, _⟩ := L1.at (k := 0) (by rw [HWR.out]; omega)
              have HL0 := hide L1; clear L1
              have HLo := hide (hR.lst.ext hF)
              go_wp2
              go_loop [7] (fun v => ∃ a : Nat, a ≤ i0 ∧ v = .int .i64 a) (fun v => i0 - (intOf v).toNat)
              case atStart => exact ⟨0, by omega, rfl⟩
              case round =>
                obtain ⟨a, ha, rfl⟩ := hrel
                obtain ⟨g3, off3, e3, hg3, c2⟩ := HL0.out.at (show a < r.length by rw [HWR.out]; omega)
                cases e3
                by_cases hai : a < i0
                · have hp := plc_out (HNO.out a hai)
                  have CC := fun y => specPlaceIn (some ⟨b, 0, none⟩) c3 k o y _ HLo.out HO.out (by omega)
                  obtain ⟨x, hx⟩ : ∃ x, x = r.getD a 0 := ⟨_, rfl⟩; rw [← hx] at c2 hp
                  have CC := CC x
                  rw [hp] at CC
                  clear hx hp
                  go_wp2_with fail; refine (CC).mono ?_; rintro e w' ⟨rfl, rfl⟩
                  clear CC
                  go_wp2
                  go_round
                  case rel => exact ⟨a + 1, by omega, by go_num⟩
                  case measure => simp [intOf]; omega
                · obtain rfl : a = i0 := by omega
                  rw [HRI.out] at c2
                  have hp := plc_in HMO.out
                  have CC := specPlaceIn (some ⟨b, 0, none⟩) c3 k o m _ HLo.out HO.out (by omega)
                  obtain ⟨y, hy⟩ : ∃ y, y = plc o (m : Int) := ⟨_, rfl⟩; rw [← hy] at hp CC
                  have hdy : decide (y < 0) = false := decide_eq_false (by omega)
                  clear hy
                  go_wp2_with fail; refine (CC).mono ?_; rintro e w' ⟨rfl, rfl⟩
                  clear CC hp
                  go_wp2
                  refine wp_region_still_tail 20 (by kernel_rfl) (by kernel_rfl) ?_
                  simp only [List.take_succ_cons, List.take_zero, List.drop_succ_cons, List.drop_zero]
                  repeat still_step
                  refine wpStill_nil ?_
                  change wpList _ _ _ _ _ (World.drew _)
                  go_wp2
                  go_roundw
                  case rel => exact ⟨S + 1, by omega, by go_num, by rw [← HSet.out]; exact (hA.set m _).drew, (hF.setCell (Nat.le_refl _) _).drew⟩
                  case measure => simp [intOf]; omega
            · obtain rfl : S = rk.length := by omega
              have hdS : decide ((rk.length : Int) < (rk.length : Int)) = false := decide_eq_false (by omega)
              have HLo := hide (hR.lst.ext hF)
              have HNB := hide (fun x => (frN_bd rk s x).2)
              go_wp2
              go_loopw [8, 9] (fun v u wz => ∃ a d : Nat, Ext wr wz ∧ d ≤ k ∧ u = .int .i64 d ∧ v = .int .i64 a ∧ a < k ∧ Hid (d = 0 → a = 0) ∧ Hid (0 < d → (o.getD a 0, frN rk s (o.getD a 0)) = wkK (frN rk s) o rk.length d)) (fun _ u _ => k - (intOf u).toNat)
              case atStart => exact ⟨0, 0, Ext.refl _, by omega, rfl, rfl, by omega, fun _ => rfl, fun h => absurd h (Nat.lt_irrefl 0)⟩
              case round =>
                obtain ⟨a, d, hG, hdk, rfl, rfl, hak, HZ, HK⟩ := hrel
                have HLo := hide (HLo.out.ext hG)
                have HAc := hide (arrN (hA.keep hG))
                by_cases hlt5 : d < k
                · have hd5 : decide ((d : Int) < (k : Int)) = true := decide_eq_true (by omega)
                  obtain ⟨m1, hm1, e1⟩ := HMI.out d (by rw [HO.out]; omega)
                  obtain ⟨m2, hm2, e2⟩ := HMI.out a (by rw [HO.out]; omega)
                  obtain ⟨g3, off3, e3, hg3, q1⟩ := HLo.out.at (k := d) (by rw [HO.out]; omega)
                  cases e3
                  obtain ⟨g3, off3, e3, hg4, q2⟩ := HLo.out.at (k := a) (by rw [HO.out]; omega)
                  cases e3
                  rw [Nat.zero_add, e1] at q1
                  rw [Nat.zero_add, e2] at q2
                  have v1 := HAc.out m1 hm1
                  have v2 := HAc.out m2 hm2
                  have HYes := hide (show frN rk s m1 ≤ frN rk s m2 → (o.getD d 0, frN rk s (o.getD d 0)) = wkK (frN rk s) o rk.length (d + 1) from fun hle => by
                    by_cases h0 : 0 < d
                    · rw [wk_yes (by rw [← HK.out h0, e1, e2]; exact hle)]
                    · obtain rfl : d = 0 := by omega
                      rw [wk_yes (HNB.out _)])
                  have HNo := hide (show ¬ frN rk s m1 ≤ frN rk s m2 → 0 < d ∧ (o.getD a 0, frN rk s (o.getD a 0)) = wkK (frN rk s) o rk.length (d + 1) from fun hle => by
                    by_cases h0 : 0 < d
                    · refine ⟨h0, ?_⟩
                      rw [wk_no (by rw [← HK.out h0, e1, e2]; exact hle), HK.out h0]
                    · have h1 := HZ.out (by omega)
                      obtain rfl : d = 0 := by omega
                      rw [h1, e1] at e2
                      have : m1 = m2 := by omega
                      exact absurd (Int.le_of_eq (by rw [this])) hle)
                  clear e1 e2
                  obtain ⟨x1, hx1⟩ : ∃ x1, x1 = frN rk s m1 := ⟨_, rfl⟩; rw [← hx1] at v1 HYes HNo
                  obtain ⟨x2, hx2⟩ : ∃ x2, x2 = frN rk s m2 := ⟨_, rfl⟩; rw [← hx2] at v2 HYes HNo
                  clear hx1 hx2
                  by_cases hle : x1 ≤ x2
                  · have hdl : decide (x1 ≤ x2) = true := decide_eq_true hle
                    have HK2 := hide (HYes.out hle)
                    clear hle
                    go_wp2
                    go_quiet (fail)
                    go_wp2
                    go_roundw
                    case rel => exact ⟨d, d + 1, below_draw hG, by omega, by go_num, rfl, by omega, fun h => absurd h (Nat.succ_ne_zero _), fun _ => HK2.out⟩
                    case measure => simp [intOf]; omega
                  · have hdl : decide (x1 ≤ x2) = false := decide_eq_false hle
                    have HK2 := hide (HNo.out hle).2
                    clear hle
                    go_wp2
                    go_quiet (fail)
                    go_wp2
                    go_roundw
                    case rel => exact ⟨a, d + 1, below_draw hG, by omega, by go_num, rfl, by omega, fun h => absurd h (Nat.succ_ne_zero _), fun _ => HK2.out⟩
                    case measure => simp [intOf]; omega
                · obtain rfl : d = k := by omega
                  have hd5 : decide ((d : Int) < (d : Int)) = false := decide_eq_false (by omega)
                  have HNEW := hide (show mems (lfN rk (j + 1)) = o.take a ++ o.drop (a + 1) by
                    have h5 := HK.out (by omega)
                    have h6 := HMM.out a (by rw [← HQ.out, HO.out]; exact hak)
                    rw [← HQ.out] at h6
                    rw [HLF.out, HWK.out, HO.out, ← h5]; exact h6)
                  have hR5 := (hR.ext hF).ext hG
                  have hcap : d ≤ c3 := by have := hR5.cap; rw [HO.out] at this; exact this
                  have z1 : (a : Int) + 1 ≤ (d : Int) := by omega
                  have z2 : (d : Int) ≤ (c3 : Int) := by omega
                  have z3 : (a : Int) + 1 ≤ (c3 : Int) := by omega
                  have z4 : a + 1 ≤ c3 := by omega
                  have z5 : (a : Int) ≤ (c3 : Int) := by omega
                  have z6 : a ≤ c3 := by omega
                  have hEG := (hE.trans hF).trans hG
                  have hbz := hEG.size
                  have HT := hide (hR5.take (k := a) (by rw [HO.out]; omega))
                  have htl := hide (show (o.take a).length = a by rw [List.length_take, HO.out]; omega)
                  clear hA hF HLo HAc HNB HR1 HS1 HA0 HMM HMI HWK HLF HK HZ hR hG
                  by_cases hak2 : a + 1 < d
                  · have hne : ¬ c3 = a + 1 := by omega
                    have hdl : (o.drop (a + 1)).length = d - (a + 1) := by rw [List.length_drop, HO.out]
                    have CC := copyInts_all (some ⟨b, a + 1, none⟩) (c3 - (a + 1)) (d - (a + 1)) (o.drop (a + 1)) _ (by simpa using hR5.lst.drop (a + 1)) hdl (by omega)
                    obtain ⟨dd, hdd⟩ : ∃ dd, dd = o.drop (a + 1) := ⟨_, rfl⟩; rw [← hdd] at CC hdl HNEW
                    obtain ⟨u, hu⟩ : ∃ u, u = o.take a := ⟨_, rfl⟩; rw [← hu] at HT htl HNEW
                    have HD := hide hdl
                    have hd0 : 0 < dd.length := by omega
                    have hd1 : dd.length ≤ 10 := by omega
                    clear hdd hu hdl hR5
                    go_wp2_with fail; refine (CC).mono ?_; rintro e w5 ⟨s5, c5, rfl, R5, hb5⟩
                    have E5 := Ext.of hb5
                    obtain ⟨b5, rfl, x2, x3, _, x5⟩ := R5.spot hd0
                    have HX := hide x5
                    clear CC x5
                    go_wp2_with (first | (at_builtin; refine append_list rfl (.tmp 99) (.tmp 100) rfl w.heap.size w5 (some ⟨b, 0, none⟩) a dd.length c3 c5 b5 0 u dd rfl rfl htl.out rfl (HT.out.ext E5) (by omega) (by omega) hd0 (by have := E5.size; omega) (fun i hi => by rw [Nat.zero_add]; exact HX.out i hi) ?_; intro g7 c7 w7 R7 hb7))
                    have E7 := (hEG.trans E5).below hb7 (Nat.le_refl _)
                    clear hb5 hb7 R5
                    go_wp2
                    go_roundw
                    case rel => exact ⟨j + 1, d - 1, g7, c7, u ++ dd, by omega, by omega, by omega, by rw [show a + dd.length = d - 1 by have := HD.out; omega], (show (u ++ dd).length = d - 1 by rw [List.length_append, htl.out]; have := HD.out; omega), HNEW.out.symm, R7, E7⟩
                    case measure => simp [lenV]; have := HD.out; omega
                  · obtain rfl : d = a + 1 := by omega
                    have HNE2 := hide (show o.take a = mems (lfN rk (j + 1)) by rw [HNEW.out, List.drop_of_length_le (by rw [HO.out]; omega), List.append_nil])
                    have CC := fun wz sx cx => copyInts_all sx cx 0 [] wz (.inl rfl) rfl (by omega)
                    clear hR5
                    by_cases hca : c3 = a + 1
                    · subst hca
                      go_wp2_with fail; refine (CC _ _ _).mono ?_; rintro e w5 ⟨s5, c5, rfl, R5, hb5⟩
                      have E5 := Ext.of hb5
                      clear CC
                      go_wp2_with (first | (at_builtin; refine append_none rfl (.tmp 99) (.tmp 100) rfl _ (some ⟨b, 0, none⟩) s5 a (a + 1) c5 rfl rfl (by omega) ?_))
                      clear hb5 R5
                      go_wp2
                      go_roundw
                      case rel => exact ⟨j + 1, a, b, a + 1, o.take a, by omega, by omega, by omega, rfl, htl, HNE2, HT.out.ext E5, hEG.trans E5⟩
                      case measure => simp [lenV]
                    · go_wp2_with fail; refine (CC _ _ _).mono ?_; rintro e w5 ⟨s5, c5, rfl, R5, hb5⟩
                      have E5 := Ext.of hb5
                      clear CC
                      go_wp2_with (first | (at_builtin; refine append_none rfl (.tmp 99) (.tmp 100) rfl _ (some ⟨b, 0, none⟩) s5 a c3 c5 rfl rfl (by omega) ?_))
                      clear hb5 R5
                      go_wp2
                      go_roundw
                      case rel => exact ⟨j + 1, a, b, c3, o.take a, by omega, by omega, by omega, rfl, htl, HNE2, HT.out.ext E5, hEG.trans E5⟩
                      case measure => simp [lenV]
        · have hd : decide ((1 : Int) < (k : Int)) = false := decide_eq_false (by omega)
          obtain ⟨g3, off3, e3, hg3, q1⟩ := hR.lst.at (k := 0) (by rw [HO.out]; omega)
          cases e3
          have HG := hide (show o.getD 0 0 = roF rk by rw [HQ.out, show j = c - 1 by omega, HFI.out])
          rw [HG.out, Nat.zero_add] at q1
          go_wp2
          go_ret
          exact Ret.int rfl hE
end Go.Proofs.Ytjdfdikifiljjac
