/- Chapter 3: what reveals draw: plain numbers, contracts of the program and of the model. -/
import Derived.Test.YtgmhodmgbhpdaadRev2
namespace Go.Proofs.Ytgmhodmgbhpdaad
open Go.ChangeShapes Go.WideShapes Go.ChangeAt Go.RowKit Go.Joins Go.Sort
set_option linter.unusedVariables false

/-- the sum of the honest values of the first reveals -/
def smK (ll : List Rv) : Nat → Int
  | 0 => 0
  | k + 1 => if hnB (ll.getD k Rv.z) = true then smK ll k + (ll.getD k Rv.z).v else smK ll k
theorem smK_yes {ll : List Rv} {k : Nat} (h : hnB (ll.getD k Rv.z) = true) : smK ll k + (ll.getD k Rv.z).v = smK ll (k + 1) := (if_pos h).symm
theorem smK_no {ll : List Rv} {k : Nat} (h : hnB (ll.getD k Rv.z) = false) : smK ll k = smK ll (k + 1) := (if_neg (by rw [h]; simp)).symm
theorem smK_bd {ll : List Rv} (h : rvOk ll ll.length) : ∀ k, k ≤ ll.length → 0 ≤ smK ll k ∧ smK ll k ≤ 50000 * (k : Int) := by
  intro k
  induction k with
  | zero => intro _; exact ⟨Int.le_refl _, Int.le_refl _⟩
  | succ k ih =>
    intro hk
    have h1 := ih (by omega)
    have h2 := (h k (by omega)).1
    by_cases hb : hnB (ll.getD k Rv.z) = true
    · rw [← smK_yes hb]; omega
    · rw [Bool.not_eq_true] at hb; rw [← smK_no hb]; omega
def vls (ll : List Rv) (L : List Int) : List Int := L.map fun i => (ll.getD i.toNat Rv.z).v
theorem vls_len (ll : List Rv) (L : List Int) : (vls ll L).length = L.length := by simp [vls]
theorem vls_at (ll : List Rv) (L : List Int) {j : Nat} (h : j < L.length) : (vls ll L).getD j 0 = (ll.getD (L.getD j 0).toNat Rv.z).v := by
  simp [vls, List.getD_eq_getElem?_getD, h]
theorem vls_sum (ll : List Rv) (k : Nat) : tot (vls ll (hnK ll k)) = smK ll k := by
  induction k with
  | zero => rfl
  | succ k ih =>
    by_cases hb : hnB (ll.getD k Rv.z) = true
    · rw [← smK_yes hb, ← hnK_yes hb, ← ih]
      unfold vls
      rw [List.map_append, tot_append]
      simp [tot]
    · rw [Bool.not_eq_true] at hb; rw [← smK_no hb, ← hnK_no hb, ih]
theorem hnK_at {ll : List Rv} : ∀ k, ∀ x ∈ hnK ll k, ∃ m : Nat, x = (m : Int) ∧ m < k := by
  intro k
  induction k with
  | zero => intro x hx; exact absurd (show x ∈ ([] : List Int) from hx) List.not_mem_nil
  | succ k ih =>
    intro x hx
    by_cases hb : hnB (ll.getD k Rv.z) = true
    · rw [← hnK_yes hb, List.mem_append, List.mem_singleton] at hx
      rcases hx with hx | hx
      · obtain ⟨m, e, hm⟩ := ih x hx; exact ⟨m, e, by omega⟩
      · exact ⟨k, hx, by omega⟩
    · rw [Bool.not_eq_true] at hb; rw [← hnK_no hb] at hx
      obtain ⟨m, e, hm⟩ := ih x hx; exact ⟨m, e, by omega⟩
def dwOk (ll : List Rv) (n : Int) : Prop := rvsOk ll ∧ 1 ≤ n ∧ n ≤ 50000
open Classical in
noncomputable def dwS (ll : List Rv) (n : Int) : Int := if dwOk ll n then smK ll ll.length else -1
open Classical in
noncomputable def dwC (ll : List Rv) (n : Int) : Int := if dwOk ll n then smK ll ll.length % n else -1
theorem dwS_yes {ll : List Rv} {n : Int} (h : dwOk ll n) : dwS ll n = smK ll ll.length := if_pos h
theorem dwS_no {ll : List Rv} {n : Int} (h : ¬ dwOk ll n) : dwS ll n = -1 := if_neg h
theorem dwC_yes {ll : List Rv} {n : Int} (h : dwOk ll n) : dwC ll n = smK ll ll.length % n := if_pos h
theorem dwC_no {ll : List Rv} {n : Int} (h : ¬ dwOk ll n) : dwC ll n = -1 := if_neg h
/-- what is drawn, and the world only grown -/
def DwRet (ll : List Rv) (n : Int) (w : World) (e : Ending) (w' : World) : Prop := e = .returned (.tuple #[.int .i64 (dwS ll n), .int .i64 (dwC ll n)]) ∧ Ext w w'
set_option maxHeartbeats 400000 in
theorem implDraw (sa : Option Addr) (cap : Nat) (ll : List Rv) (n : Int) (w : World) (h : Rst w sa ll) (hl : ll.length ≤ 2000000) :
    Calls Try.prog 19 #[.slice sa ll.length cap, .int .i64 n] w (DwRet ll n w) := by
  have H := hide h; clear h
  have HR := hide (implRvs sa cap ll w H.out hl)
  by_cases hv : rvsOk ll
  · rw [rvB_yes hv] at HR
    by_cases hn : inr n 1 50000 = true
    · have hn2 := inr_iff.1 hn
      have hok : dwOk ll n := ⟨hv, hn2⟩
      have HS := hide (dwS_yes hok)
      have HC := hide (dwC_yes hok)
      have hb := smK_bd hv.2 ll.length (Nat.le_refl _)
      have h12 := hv.1
      have HSB := hide (show ∀ x ∈ vls ll (hnK ll ll.length), 0 ≤ x ∧ x ≤ 50000 from fun x hx => by
        obtain ⟨i, hi, rfl⟩ := List.mem_map.1 hx
        obtain ⟨m, rfl, hm⟩ := hnK_at _ i hi
        rw [Int.toNat_natCast]; exact (hv.2 m hm).1)
      have HHO := hide (fun w2 (e : Ext w w2) => implHonest sa cap ll w2 (H.out.ext e) hl)
      have HHA := hide (fun j (hj : j < (hnK ll ll.length).length) => hnK_at (ll := ll) _ _ (getD_mem hj))
      have HVS := hide (vls_sum ll ll.length)
      have HVA := hide (fun j (hj : j < (hnK ll ll.length).length) => vls_at ll _ hj)
      have HVL := hide (vls_len ll (hnK ll ll.length))
      have hLl := hnK_len ll ll.length
      rw [hnL_yes hv] at HHO
      obtain ⟨S, hS⟩ : ∃ S, S = smK ll ll.length := ⟨_, rfl⟩; rw [← hS] at HS HC hb HVS
      obtain ⟨V, hV⟩ : ∃ V, V = vls ll (hnK ll ll.length) := ⟨_, rfl⟩; rw [← hV] at HSB HVS HVA HVL
      obtain ⟨L, hL⟩ : ∃ L, L = hnK ll ll.length := ⟨_, rfl⟩; rw [← hL] at HHO HHA HVA HVL hLl
      clear hok hv hS hV hL
      go_enter Try.func19, Try.ntmps19
      go_wp2_with fail; refine (HR.out).mono ?_; rintro e w2 ⟨rfl, E2⟩
      go_wp2_with fail; refine (Same.eqB (implInr _ _ _ _) hn).mono ?_; rintro e w' ⟨rfl, rfl⟩
      go_wp2_with fail; refine (HHO.out _ E2).mono ?_; rintro e w3 ⟨s3, c3, rfl, R3, hb3⟩
      have E3 := E2.trans (Ext.of hb3)
      have L3 := hide R3.lst
      clear hb3 R3 hn
      go_wp2
      go_loop [6, 20] (fun u i => ∃ (k : Nat), k ≤ L.length ∧ i = .int .i64 k ∧ u = .int .i64 (tot (V.take k))) (fun _ i => L.length - (intOf i).toNat)
      case atStart => exact ⟨0, Nat.zero_le _, rfl, rfl⟩
      case round =>
        obtain ⟨k, hk, rfl, rfl⟩ := hrel
        have hvb := tot_bd (V.take k) 50000 (fun x hx => HSB.out x (mem_take hx))
        rw [List.length_take] at hvb
        by_cases hlt : k < L.length
        · obtain ⟨g, off, rfl, hg, q0⟩ := L3.out.at hlt
          obtain ⟨m, hm, hml⟩ := HHA.out k hlt
          have HA := hide (HVA.out k hlt)
          have HT := hide (tot_take V k (by rw [HVL.out]; exact hlt))
          rw [HA.out, hm, Int.toNat_natCast] at HT
          rw [hm] at q0
          have hvm := HSB.out _ (getD_mem (l := V) (k := k) (by rw [HVL.out]; exact hlt))
          rw [HA.out, hm, Int.toNat_natCast] at hvm
          obtain ⟨g2, off2, rfl, hg2, _, r1, _⟩ := (H.out.ext E3).at hml
          obtain ⟨v, hvv⟩ : ∃ v, v = (ll.getD m Rv.z).v := ⟨_, rfl⟩; rw [← hvv] at r1 HT hvm
          obtain ⟨t, ht⟩ : ∃ t, t = tot (V.take k) := ⟨_, rfl⟩; rw [← ht] at hvb HT ⊢
          clear hvv ht hm HA
          have hvb2 : 0 ≤ t ∧ t ≤ 100000000000 := by omega
          clear hvb
          go_wp2
          go_round
          case rel => exact ⟨k + 1, by omega, by go_num, by rw [HT.out]⟩
          case measure => simp [intOf]; omega
        · obtain rfl : k = L.length := by omega
          have HF := hide (show tot (V.take L.length) = S by rw [← HVL.out, List.take_length, HVS.out])
          rw [HF.out] at hvb ⊢
          have hn1 : n ≠ 0 := by omega
          have hmod := hide (show S.tmod n = S % n from Int.tmod_eq_emod_of_nonneg hb.1)
          obtain ⟨q, hq⟩ : ∃ q, q = S % n := ⟨_, rfl⟩; rw [← hq] at HC hmod
          have hmd := hmod.out
          have HQ := hide hq; clear hq
          have hmd2 : S % n = q := HQ.out.symm
          clear hvb
          go_wp2
          refine wp_region_quiet_below (by kernel_rfl) (by kernel_rfl) ?_
          repeat (go_big_quiet_step (fail))
          refine wpQuiet_nil ?_; intro w9 hq; have E9 := Ext.class hq; clear hq
          go_wp2
          refine bodyPost_ret (v := .tuple #[.int .i64 S, .int .i64 q]) (by simp [results, Try.results19, go_sem]) rfl ?_
          exact ⟨by rw [HS.out, HC.out], E3.trans E9⟩
    · have HS := hide (dwS_no (ll := ll) (n := n) fun h => hn (inr_iff.2 h.2))
      have HC := hide (dwC_no (ll := ll) (n := n) fun h => hn (inr_iff.2 h.2))
      rw [Bool.not_eq_true] at hn
      clear hv
      go_enter Try.func19, Try.ntmps19
      go_wp2_with fail; refine (HR.out).mono ?_; rintro e w2 ⟨rfl, E2⟩
      go_wp2_with fail; refine (Same.eqB (implInr _ _ _ _) hn).mono ?_; rintro e w' ⟨rfl, rfl⟩
      go_wp2
      refine bodyPost_ret (v := .tuple #[.int .i64 (-1), .int .i64 (-1)]) (by simp [results, Try.results19, go_sem]) rfl ?_
      exact ⟨by rw [HS.out, HC.out], E2⟩
  · have HS := hide (dwS_no (ll := ll) (n := n) fun h => hv h.1)
    have HC := hide (dwC_no (ll := ll) (n := n) fun h => hv h.1)
    rw [rvB_no hv] at HR
    clear hv
    go_enter Try.func19, Try.ntmps19
    go_wp2_with fail; refine (HR.out).mono ?_; rintro e w2 ⟨rfl, E2⟩
    go_wp2
    refine bodyPost_ret (v := .tuple #[.int .i64 (-1), .int .i64 (-1)]) (by simp [results, Try.results19, go_sem]) rfl ?_
    exact ⟨by rw [HS.out, HC.out], E2⟩
set_option maxHeartbeats 400000 in
theorem specDraw (sa : Option Addr) (cap : Nat) (ll : List Rv) (n : Int) (w : World) (h : Rst w sa ll) (hl : ll.length ≤ 2000000) :
    Calls Try.prog 20 #[.slice sa ll.length cap, .int .i64 n] w (DwRet ll n w) := by
  have H := hide h; clear h
  have HR := hide (specRvs sa cap ll w H.out hl)
  by_cases hv : rvsOk ll
  · rw [rvB_yes hv] at HR
    by_cases hn : inr n 1 50000 = true
    · have hn2 := inr_iff.1 hn
      have hok : dwOk ll n := ⟨hv, hn2⟩
      have HS := hide (dwS_yes hok)
      have HC := hide (dwC_yes hok)
      have HSB := hide (smK_bd hv.2)
      have h12 := hv.1
      have HO := hide hv.2
      clear hok hv
      go_enter Try.func20, Try.ntmps20
      go_wp2_with fail; refine (HR.out).mono ?_; rintro e w' ⟨rfl, rfl⟩
      go_wp2_with fail; refine (Same.eqB (specInr _ _ _ _) hn).mono ?_; rintro e w' ⟨rfl, rfl⟩
      clear hn
      go_wp2
      go_loopw [6, 7] (fun u i wr => ∃ (k : Nat), k ≤ ll.length ∧ i = .int .i64 k ∧ u = .int .i64 (smK ll k) ∧ Ext w wr) (fun _ i _ => ll.length - (intOf i).toNat)
      case atStart => exact ⟨0, Nat.zero_le _, rfl, rfl, Ext.refl _⟩
      case round =>
        obtain ⟨k, hk, rfl, rfl, hE⟩ := hrel
        have hb := HSB.out k hk
        by_cases hlt : k < ll.length
        · have hki : (k : Int) < (ll.length : Int) := by omega
          obtain ⟨g, off, rfl, hg, q0, q1, q2⟩ := (H.out.ext hE).at hlt
          have h1 := HO.out k hlt
          have h1v := h1.1
          have HY := hide (fun h => @smK_yes ll k h)
          have HN := hide (fun h => @smK_no ll k h)
          have HB := hide (show hnB (ll.getD k Rv.z) = (cmt (ll.getD k Rv.z).v (ll.getD k Rv.z).s == (ll.getD k Rv.z).c) from rfl)
          have HCC := hide (fun w2 => specCommit (ll.getD k Rv.z).v (ll.getD k Rv.z).s w2 h1)
          have HQ1 := hide (fun wz (e : Ext wr wz) => (e.cell (o := off + k * 3 + 1) hg).trans q1)
          obtain ⟨b, hb0⟩ : ∃ b, b = hnB (ll.getD k Rv.z) := ⟨_, rfl⟩; rw [← hb0] at HY HN HB
          obtain ⟨c, hc⟩ : ∃ c, c = (ll.getD k Rv.z).c := ⟨_, rfl⟩; rw [← hc] at q0 HB
          obtain ⟨v, hv⟩ : ∃ v, v = (ll.getD k Rv.z).v := ⟨_, rfl⟩; rw [← hv] at q1 HB HCC HY h1v HQ1
          obtain ⟨s, hs⟩ : ∃ s, s = (ll.getD k Rv.z).s := ⟨_, rfl⟩; rw [← hs] at q2 HB HCC
          obtain ⟨z, hz⟩ : ∃ z, z = cmt v s := ⟨_, rfl⟩; rw [← hz] at HB HCC
          obtain ⟨t, ht⟩ : ∃ t, t = smK ll k := ⟨_, rfl⟩; rw [← ht] at hb HY HN ⊢
          clear hb0 hc hv hs hz h1 ht
          have r0 := cell_regrown q0
          have r1 := cell_regrown q1
          have r2 := cell_regrown q2
          cases b with
          | true =>
            have ht : (z == c) = true := HB.out.symm
            have HK2 := hide (HY.out rfl)
            clear HY HN HB
            go_wp2
            refine wp_region_quiet_below (by kernel_rfl) (by kernel_rfl) ?_
            repeat (go_big_quiet_step ((first | (go_at_call 36; exact Same.quiet (HCC.out _)))))
            refine wpQuiet_nil ?_; intro w9 hq; have E9 := Ext.class hq; clear hq
            clear r0 r1 r2 q0 q1 q2
            have q1 := HQ1.out _ E9
            go_wp2
            go_roundw
            case rel => exact ⟨k + 1, by omega, by go_num, by rw [HK2.out], hE.trans E9⟩
            case measure => simp [intOf]; omega
          | false =>
            have ht : (z == c) = false := HB.out.symm
            have HK2 := hide (HN.out rfl)
            clear HY HN HB
            go_wp2
            refine wp_region_quiet_below (by kernel_rfl) (by kernel_rfl) ?_
            repeat (go_big_quiet_step ((first | (go_at_call 36; exact Same.quiet (HCC.out _)))))
            refine wpQuiet_nil ?_; intro w9 hq; have E9 := Ext.class hq; clear hq
            go_wp2
            go_roundw
            case rel => exact ⟨k + 1, by omega, by go_num, by rw [← HK2.out], hE.trans E9⟩
            case measure => simp [intOf]; omega
        · obtain rfl : k = ll.length := by omega
          obtain ⟨S, hS⟩ : ∃ S, S = smK ll ll.length := ⟨_, rfl⟩; rw [← hS] at HS HC hb ⊢
          clear hS HSB
          have hn1 : n ≠ 0 := by omega
          have hmod := hide (show S.tmod n = S % n from Int.tmod_eq_emod_of_nonneg hb.1)
          obtain ⟨q, hq⟩ : ∃ q, q = S % n := ⟨_, rfl⟩; rw [← hq] at HC hmod
          have hmd := hmod.out
          have HQ := hide hq; clear hq
          have hmd2 : S % n = q := HQ.out.symm
          go_wp2
          refine wp_region_quiet_below (by kernel_rfl) (by kernel_rfl) ?_
          repeat (go_big_quiet_step (fail))
          refine wpQuiet_nil ?_; intro w9 hq; have E9 := Ext.class hq; clear hq
          go_wp2
          refine bodyPost_ret (v := .tuple #[.int .i64 S, .int .i64 q]) (by simp [results, Try.results20, go_sem]) rfl ?_
          exact ⟨by rw [HS.out, HC.out], hE.trans E9⟩
    · have HS := hide (dwS_no (ll := ll) (n := n) fun h => hn (inr_iff.2 h.2))
      have HC := hide (dwC_no (ll := ll) (n := n) fun h => hn (inr_iff.2 h.2))
      rw [Bool.not_eq_true] at hn
      clear hv
      go_enter Try.func20, Try.ntmps20
      go_wp2_with fail; refine (HR.out).mono ?_; rintro e w' ⟨rfl, rfl⟩
      go_wp2_with fail; refine (Same.eqB (specInr _ _ _ _) hn).mono ?_; rintro e w' ⟨rfl, rfl⟩
      go_wp2
      refine bodyPost_ret (v := .tuple #[.int .i64 (-1), .int .i64 (-1)]) (by simp [results, Try.results20, go_sem]) rfl ?_
      exact ⟨by rw [HS.out, HC.out], Ext.refl _⟩
  · have HS := hide (dwS_no (ll := ll) (n := n) fun h => hv h.1)
    have HC := hide (dwC_no (ll := ll) (n := n) fun h => hv h.1)
    rw [rvB_no hv] at HR
    clear hv
    go_enter Try.func20, Try.ntmps20
    go_wp2_with fail; refine (HR.out).mono ?_; rintro e w' ⟨rfl, rfl⟩
    go_wp2
    refine bodyPost_ret (v := .tuple #[.int .i64 (-1), .int .i64 (-1)]) (by simp [results, Try.results20, go_sem]) rfl ?_
    exact ⟨by rw [HS.out, HC.out], Ext.refl _⟩
end Go.Proofs.Ytgmhodmgbhpdaad
