/- Chapter 4: what the laws of shares want: plain numbers; shares that are compared. -/
import Derived.Test.YtgmhodmgbhpdaabShr8
import Derived.Test.YtgmhodmgbhpdaabShr10
import Derived.Test.YtgmhodmgbhpdaabShr11
namespace Go.Proofs.Ytgmhodmgbhpdaab
open Go.ChangeShapes Go.WideShapes Go.ChangeAt Go.RowKit Go.Joins Go.Sort
set_option linter.unusedVariables false

def addm (a b : List Int) : List Int := List.zipWith (fun u v => (u + v) % 251) a b
theorem addm_len {a b : List Int} (h : a.length = b.length) : (addm a b).length = a.length := by unfold addm; rw [List.length_zipWith]; omega
theorem addm_rg (a b : List Int) : rg (addm a b) := fun x hx => by
  unfold addm at hx
  obtain ⟨i, hi, e⟩ := List.mem_iff_getElem.1 hx
  rw [List.getElem_zipWith] at e
  omega
theorem addm_zero {a b : List Int} (h1 : 0 < a.length) (h2 : 0 < b.length) : (addm a b).getD 0 0 = (a.getD 0 0 + b.getD 0 0) % 251 := by
  cases a with
  | nil => simp at h1
  | cons u a => cases b with
    | nil => simp at h2
    | cons v b => rfl
theorem ev_addm (a : List Int) : ∀ (b : List Int) (x : Int), a.length = b.length → (251 : Int) ∣ ev (addm a b) x - (ev a x + ev b x) := by
  induction a with
  | nil => intro b x h; cases b with
    | nil => simp [ev, addm]
    | cons => simp at h
  | cons u a ih => intro b x h; cases b with
    | nil => simp at h
    | cons v b =>
      obtain ⟨k, hk⟩ := ih b x (by simpa using h)
      obtain ⟨m, hm⟩ : (251 : Int) ∣ (u + v) % 251 - (u + v) := by omega
      show (251 : Int) ∣ (u + v) % 251 + x * ev (addm a b) x - (u + x * ev a x + (v + x * ev b x))
      refine ⟨m + x * k, ?_⟩
      generalize (u + v) % 251 = r at *
      generalize ev (addm a b) x = e at *
      grind
/-- shares with a polynomial's values added go through the sum -/
theorem isT_add {a o : List Sh} {A P : List Int} (hA : isT a A) (hP : P.length = A.length) (ho : o.length = a.length)
    (h : ∀ j, j < a.length → (o.getD j Sh.z).x = (a.getD j Sh.z).x ∧ (251 : Int) ∣ (o.getD j Sh.z).y - ((a.getD j Sh.z).y + ev P (a.getD j Sh.z).x)) : isT o (addm A P) := by
  refine ⟨by rw [addm_len hP.symm, hA.1, ho], addm_rg A P, gt_at fun j hj => ?_⟩
  obtain ⟨h1, h2⟩ := h j (by omega)
  have h3 := hA.2.2.at (i := j) (by omega)
  have h4 := ev_addm A P (a.getD j Sh.z).x hP.symm
  rw [h1]; omega
theorem sum_ok {a b : List Sh} (ha : svOk a) (hb : svOk b) (hx : xsL a = xsL b) : svOk (sumS a b) ∧ (sumS a b).length = a.length := by
  have hl : a.length = b.length := by rw [← xsL_len, hx, xsL_len]
  have hsl := sumS_len hl
  have hxs : xsL (sumS a b) = xsL a := xs_eq hsl fun j hj => by rw [hsl] at hj; rw [sumS_at hj (by omega)]
  refine ⟨⟨by rw [hxs]; exact ha.1, fun y hy => ?_⟩, hsl⟩
  obtain ⟨j, hj, e⟩ := mem_getD hy
  rw [ysL_len, hsl] at hj
  rw [ysL_at, sumS_at hj (by omega)] at e
  rw [← e]; show 0 ≤ _ % 251 ∧ _ % 251 ≤ (250 : Int); omega
theorem os_pos {ll : List Sh} (h : svOk ll) (h1 : 1 ≤ ll.length) (h8 : ll.length ≤ 8) : 0 ≤ osR ll ∧ osR ll ≤ 250 := by
  rw [osR_yes ⟨h, h1, h8⟩]; exact rg_at (thr_ex h.gd).2.1 0
theorem as_sum {a b : List Sh} (h0 : 0 < (asR a b).length) (h8 : a.length ≤ 8) : svOk (asR a b) ∧ osR (asR a b) = (osR a + osR b) % 251 ∧ (0 ≤ osR a ∧ osR a ≤ 250) ∧ (0 ≤ osR b ∧ osR b ≤ 250) := by
  by_cases h : svOk a ∧ svOk b ∧ xsL a = xsL b
  · obtain ⟨ha, hb, hx⟩ := h
    rw [asR_yes ha hb hx] at h0 ⊢
    obtain ⟨hs, hsl⟩ := sum_ok ha hb hx
    have hl : a.length = b.length := by rw [← xsL_len, hx, xsL_len]
    have h1 : 1 ≤ a.length := by omega
    have tA := thr_ex ha.gd
    have tB := thr_ex hb.gd
    have hT : isT (sumS a b) (addm (thr a) (thr b)) := isT_add tA (by rw [tB.1, tA.1, hl]) hsl fun j hj => by
      rw [sumS_at hj (by omega)]
      have h3 := tB.2.2.at (i := j) (by omega)
      have h5 : (b.getD j Sh.z).x = (a.getD j Sh.z).x := by rw [← xsL_at, ← xsL_at, hx]
      rw [h5] at h3
      refine ⟨rfl, ?_⟩
      show (251 : Int) ∣ ((a.getD j Sh.z).y + (b.getD j Sh.z).y) % 251 - _
      omega
    refine ⟨hs, ?_, os_pos ha h1 h8, os_pos hb (by omega) (by omega)⟩
    rw [osR_yes ⟨hs, by omega, by omega⟩, thr_of hs.gd hT, addm_zero (by rw [tA.1]; omega) (by rw [tB.1]; omega), osR_yes ⟨ha, h1, h8⟩, osR_yes ⟨hb, by omega, by omega⟩]
  · rw [asR_no h] at h0; simp at h0
theorem rs_facts {ll : List Sh} {more : List Int} (h0 : 0 < (rsR ll more).length) :
    (rsR ll more).length = ll.length ∧ (∀ k, k < (rsR ll more).length → ((rsR ll more).getD k Sh.z).x = (ll.getD k Sh.z).x) ∧ (more.length < ll.length → ll.length ≤ 8 → osR (rsR ll more) = osR ll) := by
  by_cases h : svOk ll ∧ cfB (0 :: more) = true
  · obtain ⟨hv, hc⟩ := h
    rw [rsR_yes hv hc] at h0 ⊢
    have hl := rfS_len more ll
    refine ⟨hl, fun k hk => by rw [rfS_at more (by omega)], fun hm h8 => ?_⟩
    have hxs : xsL (rfS more ll) = xsL ll := xs_eq hl fun j hj => by rw [hl] at hj; rw [rfS_at more hj]
    have hs : svOk (rfS more ll) := ⟨by rw [hxs]; exact hv.1, fun y hy => by
      obtain ⟨j, hj, e⟩ := mem_getD hy
      rw [ysL_len, hl] at hj
      rw [ysL_at, rfS_at more hj] at e
      rw [← e]; show 0 ≤ _ % 251 ∧ _ % 251 ≤ (250 : Int); omega⟩
    have tA := thr_ex hv.gd
    have hPl : ((0 :: more) ++ List.replicate (ll.length - (more.length + 1)) 0).length = (thr ll).length := by rw [tA.1]; simp; omega
    have hT : isT (rfS more ll) (addm (thr ll) ((0 :: more) ++ List.replicate (ll.length - (more.length + 1)) 0)) := isT_add tA hPl hl fun j hj => by
      rw [rfS_at more hj, ev_pad]
      have h2 := pv_dv (0 :: more) (ll.getD j Sh.z).x
      refine ⟨rfl, ?_⟩
      show (251 : Int) ∣ ((ll.getD j Sh.z).y + pv (0 :: more) (ll.getD j Sh.z).x) % 251 - _
      omega
    have hr := rg_at tA.2.1 0
    rw [osR_yes ⟨hs, by omega, by omega⟩, thr_of hs.gd hT, addm_zero (by rw [tA.1]; omega) (by simp), osR_yes ⟨hv, by omega, h8⟩]
    show ((thr ll).getD 0 0 + 0) % 251 = (thr ll).getD 0 0
    omega
  · rw [rsR_no h] at h0; simp at h0
theorem pw_facts {ll : List Sh} {s : Int} (h0 : 0 < (pwR ll s).length) : svOk ll ∧ ll.length ≤ 7 ∧ inr s 0 250 = true := by
  by_cases h : svOk ll ∧ ll.length ≤ 7 ∧ inr s 0 250 = true
  · exact h
  · rw [pwR_no h] at h0; simp at h0
theorem pw_has {ll : List Sh} {s : Int} (h : svOk ll) (h7 : ll.length ≤ 7) (hs : inr s 0 250 = true) :
    (pwR ll s).length = ll.length + 1 ∧ (pwR ll s).getD 0 0 = s ∧ ∀ k, k < ll.length → paR (pwR ll s) (ll.getD k Sh.z).x = (ll.getD k Sh.z).y := by
  rw [pwR_yes h h7 hs]
  have t := thr_ex (gd_zero h hs)
  have hs2 := inr_iff.1 hs
  have hl : (thr (⟨0, s⟩ :: ll)).length = ll.length + 1 := by rw [t.1, List.length_cons]
  have hr := rg_at t.2.1 0
  have hc : cfB (thr (⟨0, s⟩ :: ll)) = true := cfB_iff.2 ⟨by omega, t.2.1⟩
  refine ⟨hl, ?_, fun k hk => ?_⟩
  · have h1 := t.2.2 ⟨0, s⟩ (List.mem_cons_self ..)
    have h2 : ev (thr (⟨0, s⟩ :: ll)) 0 = (thr (⟨0, s⟩ :: ll)).getD 0 0 := by
      cases hq : thr (⟨0, s⟩ :: ll) with
      | nil => rw [hq] at hl; simp at hl
      | cons u q => show u + 0 * ev q 0 = u; omega
    have h3 : (251 : Int) ∣ ev (thr (⟨0, s⟩ :: ll)) 0 - s := h1
    omega
  · have h1 := t.2.2 (ll.getD k Sh.z) (List.mem_cons_of_mem _ (sh_mem hk))
    have hx := h.gd.x k
    have hy := h.gd.y k
    rw [paR_yes hc (inr_iff.2 hx)]
    exact (pv_is hy.1 hy.2).2 h1
set_option maxHeartbeats 800000 in
theorem equalShares_yes (sa sb : Option Addr) (ll : List Sh) (n ca cb : Nat) (w : World) (ha : Sst w sa ll) (hb : Sst w sb ll) (hn : ll.length = n) (hl : n ≤ 2000000) :
    Calls Try.prog 27 #[.slice sa n ca, .slice sb n cb] w (Ret (.bool true) w) := by
  subst hn
  have HA := hide ha; clear ha
  have HB := hide hb; clear hb
  have hne : ((ll.length : Int) != (ll.length : Int)) = false := by simp
  go_enter Try.func27, Try.ntmps27
  go_wp2
  go_loopw [5] (fun i wr => ∃ k : Nat, k ≤ ll.length ∧ i = .int .i64 k ∧ Ext w wr) (fun i _ => ll.length - (intOf i).toNat)
  case atStart => exact ⟨0, Nat.zero_le _, rfl, Ext.refl _⟩
  case round =>
    obtain ⟨k, hk, rfl, hE⟩ := hrel
    by_cases hlt : k < ll.length
    · have hki : (k : Int) < (ll.length : Int) := by omega
      obtain ⟨g, off, rfl, hg, q0, q1⟩ := (HA.out.ext hE).at hlt
      obtain ⟨g2, off2, rfl, hg2, p0, p1⟩ := (HB.out.ext hE).at hlt
      obtain ⟨x, hx⟩ : ∃ x, x = (ll.getD k Sh.z).x := ⟨_, rfl⟩; rw [← hx] at q0 p0
      obtain ⟨y, hy⟩ : ∃ y, y = (ll.getD k Sh.z).y := ⟨_, rfl⟩; rw [← hy] at q1 p1
      clear hx hy
      have r0 := cell_regrown q0
      have r1 := cell_regrown q1
      have t0 := cell_regrown p0
      have t1 := cell_regrown p1
      go_wp2
      refine wp_region_quiet_below (by kernel_rfl) (by kernel_rfl) ?_
      repeat (go_big_quiet_step (fail))
      refine wpQuiet_nil ?_; intro w9 hq; have E9 := Ext.class hq; clear hq
      go_wp2
      go_roundw
      case rel => exact ⟨k + 1, by omega, by go_num, hE.trans E9⟩
      case measure => (first | (simp [intOf]; done) | (simp [intOf]; omega))
    · have hki : decide ((k : Int) < (ll.length : Int)) = false := decide_eq_false (by omega)
      go_wp2
      go_ret
      exact Ret.bool rfl hE
end Go.Proofs.Ytgmhodmgbhpdaab
